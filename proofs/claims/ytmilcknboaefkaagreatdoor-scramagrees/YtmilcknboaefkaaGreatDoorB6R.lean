/- The document's Encode. -/
import Derived.Test.YtmilcknboaefkaaGreatDoorB6F
import Derived.Laws.BitsAllLaws
namespace Go.Proofs.YtmilcknboaefkaaGreatDoor
open Go.RowKit

theorem drop_get {xs : List Int} {i : Nat} {Y : List Int} (h : xs.drop i = Y) (j : Nat) : xs.getD (i + j) 0 = Y.getD j 0 := by
  rw [← h]; simp [List.getD]
theorem i64_or_nat (a b : Nat) (ha : a < 9223372036854775808) (hb : b < 9223372036854775808) : bits .or .i64 (a : Int) (b : Int) = ((a ||| b : Nat) : Int) := by
  have hx : a ||| b < 2 ^ 63 := Nat.or_lt_two_pow (by omega) (by omega)
  show IntKind.i64.wrap ((BitVec.ofInt 64 (a : Int) ||| BitVec.ofInt 64 (b : Int)).toNat : Int) = _
  rw [BitVec.toNat_or, ofInt_u64 a (by omega), ofInt_u64 b (by omega), IntKind.wrap_i64]
  omega
theorem i64_and63 (n : Int) : bits .and .i64 n 63 = n % 64 := by
  have h63 : (BitVec.ofInt 64 63).toNat = 2 ^ 6 - 1 := by decide
  have key : (BitVec.ofInt 64 n &&& BitVec.ofInt 64 63).toNat = (n % ((2 ^ 64 : Nat) : Int)).toNat % 2 ^ 6 := by
    rw [BitVec.toNat_and, BitVec.toNat_ofInt, h63, Nat.and_two_pow_sub_one_eq_mod]
  show IntKind.i64.wrap ((BitVec.ofInt 64 n &&& BitVec.ofInt 64 63).toNat : Nat) = n % 64
  rw [key, IntKind.wrap_i64]
  omega
theorem or8i {a y : Int} (h0 : 0 ≤ a) (h1 : a < 1099511627776) (y0 : 0 ≤ y) (y1 : y ≤ 255) : bits .or .i64 (wrap64 (a * 256)) y = a * 256 + y := by
  obtain ⟨m, rfl⟩ : ∃ m : Nat, a = m := ⟨a.toNat, by omega⟩
  obtain ⟨k, rfl⟩ : ∃ k : Nat, y = k := ⟨y.toNat, by omega⟩
  have e : wrap64 ((m : Int) * 256) = ((m * 256 : Nat) : Int) := by unfold wrap64; omega
  rw [e, i64_or_nat _ _ (by omega) (by omega)]
  have : (m * 256 ||| k) = m * 256 + k := by
    rw [show m * 256 = m <<< 8 from by rw [Nat.shiftLeft_eq]]
    exact (Nat.shiftLeft_add_eq_or_of_lt (i := 8) (by omega) m).symm
  rw [this]; omega

set_option maxHeartbeats 8000000 in
theorem refEncode_any (a : Option Addr) (n c : Nat) (xs : List Int) (w : World) (hR : Rd w a n c xs) (hn : n ≤ 1000000) :
    Calls Tryz.prog 34 #[.slice a n c] w fun e w' => e = .returned (.string (strOfNums (enc xs))) ∧ Below w.heap.size w w' := by
  have hl := hR.len
  have hE := enc_len xs
  rw [hl] at hE
  have HB : Hid (Bd (enc xs)) := enc_bd hR.bytes
  have HEl : Hid ((enc xs).length ≤ 10000000) := by show _ ≤ _; omega
  obtain ⟨E, HE⟩ : ∃ E, Hid (enc xs = E) := ⟨_, rfl⟩
  rw [HE.out] at HEl HB ⊢
  have HR : Hid (Rd w a n c xs) := hR
  have HL : Hid (xs.length = n) := hl
  clear hE hR hl
  go_enter Tryz.func34, Tryz.ntmps34
  go_wp2
  go_loopw [3, 4] (fun st si wr => ∃ (i : Nat) (T : List Int), si = .int .i64 (i : Int) ∧ i ≤ n + 2 ∧ Hid (T ++ enc (xs.drop i) = E) ∧ wr.ownsRow w.heap.size 5 1 st T.length (bc T) ∧ Below w.heap.size w wr) (fun _ si _ => n + 3 - natV si)
  case atStart => exact ⟨0, [], rfl, by omega, by show [] ++ enc (xs.drop 0) = E; rw [List.drop_zero]; exact HE.out, ⟨rfl, .inl ⟨rfl, rfl⟩⟩, Below.refl _ _⟩
  case round =>
    obtain ⟨i, T, rfl, hi, HT, hT, hb⟩ := hrel
    clear HE
    have hTl : T.length ≤ 10000000 := by have := congrArg List.length HT.out; rw [List.length_append] at this; have := HEl.out; omega
    rcases Nat.lt_or_ge i n with hlt | hge
    · have hli : (i : Int) < (n : Int) := by omega
      match hY : xs.drop i with
      | [] => exfalso; have := congrArg List.length hY; rw [List.length_drop, HL.out] at this; simp at this; omega
      | [x] =>
        have hrem : i + 1 = n := by have := congrArg List.length hY; rw [List.length_drop, HL.out] at this; simp only [List.length_cons, List.length_nil] at this; omega
        have hbs : ∀ j, 0 ≤ xs.getD j 0 ∧ xs.getD j 0 ≤ 255 := fun j => HR.out.bytes.get j
        have q1 : ¬ (i : Int) + 1 < (n : Int) := by omega
        have q2 : ¬ (i : Int) + 2 < (n : Int) := by omega
        have p1 : ¬ (n : Int) < (i : Int) + 1 := by omega
        have p2 : (n : Int) < (i : Int) + 2 := by omega
        have p3 : (n : Int) < (i : Int) + 3 := by omega
        have p0 : ¬ (n : Int) < (i : Int) := by omega
        obtain ⟨b, off, rfl, hcl⟩ := HR.out.flat (by omega)
        have gx : xs.getD (i + 0) 0 = x := by have := drop_get hY 0; simpa using this
        have hx := hbs (i + 0)
        have c0 := (hb.cell (World.block_lt_of_cell? w _ (hcl (i + 0) (by omega)))).trans (hcl (i + 0) (by omega))
        rw [gx] at c0 hx
        rw [Nat.add_zero] at c0
        have HN2 : Hid (T ++ enc [x] ++ enc (xs.drop (i + 3)) = E) := by
          show _ = _; rw [← HT.out, hY, List.append_assoc, List.drop_of_length_le (by rw [HL.out]; omega), show enc [] = [] from rfl, List.append_nil]
        have b0 : bits .or .i64 0 x = x := by have := or8i (a := 0) (y := x) (by omega) (by omega) hx.1 hx.2; simpa [wrap64] using this
        obtain ⟨M, HM⟩ : ∃ M, Hid (x * 256 = M) := ⟨_, rfl⟩
        obtain ⟨N, HN⟩ : ∃ N, Hid (M * 256 = N) := ⟨_, rfl⟩
        have b1 : wrap64 (x * 256) = M := by rw [← HM.out]; unfold wrap64; omega
        have b2 : wrap64 (M * 256) = N := by rw [← HN.out, ← HM.out]; unfold wrap64; omega
        have rx : wrap64 x = x := by unfold wrap64; omega
        have i0 : ∀ u, (Instr.index 9 (.string ⟨(65 :: 66 :: 67 :: 68 :: 69 :: 70 :: 71 :: 72 :: 73 :: 74 :: 75 :: 76 :: 77 :: 78 :: 79 :: 80 :: 81 :: 82 :: 83 :: 84 :: 85 :: 86 :: 87 :: 88 :: 89 :: 90 :: 97 :: 98 :: 99 :: 100 :: 101 :: 102 :: 103 :: 104 :: 105 :: 106 :: 107 :: 108 :: 109 :: 110 :: 111 :: 112 :: 113 :: 114 :: 115 :: 116 :: 117 :: 118 :: 119 :: 120 :: 121 :: 122 :: 48 :: 49 :: 50 :: 51 :: 52 :: 53 :: 54 :: 55 :: 56 :: 57 :: 43 :: 47 :: []).toArray⟩) (.int .i64 (bits .and .i64 (N / 262144) 63))).run Tryz.prog u = .ok (.int .u8 (dg (x / 4).toNat)) u := fun u => by
          have e : bits .and .i64 (N / 262144) 63 = x / 4 := by rw [i64_and63, ← HN.out, ← HM.out]; omega
          rw [e]; exact dg_ix _ (by omega) (by omega) u _
        have i1 : ∀ u, (Instr.index 9 (.string ⟨(65 :: 66 :: 67 :: 68 :: 69 :: 70 :: 71 :: 72 :: 73 :: 74 :: 75 :: 76 :: 77 :: 78 :: 79 :: 80 :: 81 :: 82 :: 83 :: 84 :: 85 :: 86 :: 87 :: 88 :: 89 :: 90 :: 97 :: 98 :: 99 :: 100 :: 101 :: 102 :: 103 :: 104 :: 105 :: 106 :: 107 :: 108 :: 109 :: 110 :: 111 :: 112 :: 113 :: 114 :: 115 :: 116 :: 117 :: 118 :: 119 :: 120 :: 121 :: 122 :: 48 :: 49 :: 50 :: 51 :: 52 :: 53 :: 54 :: 55 :: 56 :: 57 :: 43 :: 47 :: []).toArray⟩) (.int .i64 (bits .and .i64 (N / 4096) 63))).run Tryz.prog u = .ok (.int .u8 (dg (x % 4 * 16).toNat)) u := fun u => by
          have e : bits .and .i64 (N / 4096) 63 = x % 4 * 16 := by rw [i64_and63, ← HN.out, ← HM.out]; omega
          rw [e]; exact dg_ix _ (by omega) (by omega) u _
        have g0 := dg_bd (v := (x / 4).toNat) (by omega)
        obtain ⟨d0, HD0⟩ : ∃ d, Hid (dg (x / 4).toNat = d) := ⟨_, rfl⟩
        rw [HD0.out] at i0 g0
        have g1 := dg_bd (v := (x % 4 * 16).toNat) (by omega)
        obtain ⟨d1, HD1⟩ : ∃ d, Hid (dg (x % 4 * 16).toNat = d) := ⟨_, rfl⟩
        rw [HD1.out] at i1 g1
        have HE : Hid (enc [x] = [d0, d1, 61, 61]) := by show _ = _; rw [enc, HD0.out, HD1.out]
        clear hx gx HN HM hcl hbs hlt hi hY
        go_wp2
        refine wp_loop_rounds 4 ?_
        rw [rounds_succ]
        go_wp2
        rw [rounds_succ]
        go_wp2
        rw [rounds_succ]
        go_wp2
        rw [rounds_succ]
        go_wp2
        try rw [b2]
        clear b0 b1 b2 c0
        refine wp_loop_rounds 5 ?_
        rw [rounds_succ]
        go_wp2_with (at_builtin; refine wp_app1K rfl (.tmp 48) (.tmp 56) rfl w.heap.size _ (T.length) (T) rfl hT d0 g0.1 g0.2.1 rfl (by omega) hb.size ?_; intro v0 w0 ho0 hb0)
        clear hT i0 g0
        rw [rounds_succ]
        go_wp2_with (at_builtin; refine wp_app1K rfl (.tmp 48) (.tmp 56) rfl w.heap.size _ (T.length + 1) (T ++ [d0]) rfl ho0 d1 g1.1 g1.2.1 rfl (by omega) (Nat.le_trans hb.size (hb0).size) ?_; intro v1 w1 ho1 hb1)
        replace hb1 := hb0.trans hb1
        clear ho0 i1 g1
        rw [rounds_succ]
        go_wp2_with (at_builtin; refine wp_app1K rfl (.tmp 45) (.tmp 46) rfl w.heap.size _ (T.length + 1 + 1) (T ++ [d0] ++ [d1]) rfl ho1 61 (by omega) (by omega) rfl (by omega) (Nat.le_trans hb.size (hb1).size) ?_; intro v2 w2 ho2 hb2)
        replace hb2 := hb1.trans hb2
        clear ho1
        rw [rounds_succ]
        go_wp2_with (at_builtin; refine wp_app1K rfl (.tmp 45) (.tmp 46) rfl w.heap.size _ (T.length + 1 + 1 + 1) (T ++ [d0] ++ [d1] ++ [61]) rfl ho2 61 (by omega) (by omega) rfl (by omega) (Nat.le_trans hb.size (hb2).size) ?_; intro v3 w3 ho3 hb3)
        replace hb3 := hb2.trans hb3
        clear ho2
        rw [rounds_succ]
        go_wp2
        refine ⟨⟨i + 3, T ++ enc [x], rfl, by omega, HN2, ?_, hb.trans hb3⟩, by simp only [natV]; omega⟩
        rw [HE.out]
        simpa using ho3
      | [x, y] =>
        have hrem : i + 2 = n := by have := congrArg List.length hY; rw [List.length_drop, HL.out] at this; simp only [List.length_cons, List.length_nil] at this; omega
        have hbs : ∀ j, 0 ≤ xs.getD j 0 ∧ xs.getD j 0 ≤ 255 := fun j => HR.out.bytes.get j
        have q1 : (i : Int) + 1 < (n : Int) := by omega
        have q2 : ¬ (i : Int) + 2 < (n : Int) := by omega
        have p1 : ¬ (n : Int) < (i : Int) + 1 := by omega
        have p2 : ¬ (n : Int) < (i : Int) + 2 := by omega
        have p3 : (n : Int) < (i : Int) + 3 := by omega
        have p0 : ¬ (n : Int) < (i : Int) := by omega
        obtain ⟨b, off, rfl, hcl⟩ := HR.out.flat (by omega)
        have gx : xs.getD (i + 0) 0 = x := by have := drop_get hY 0; simpa using this
        have hx := hbs (i + 0)
        have c0 := (hb.cell (World.block_lt_of_cell? w _ (hcl (i + 0) (by omega)))).trans (hcl (i + 0) (by omega))
        rw [gx] at c0 hx
        have gy : xs.getD (i + 1) 0 = y := by have := drop_get hY 1; simpa using this
        have hy := hbs (i + 1)
        have c1 := (hb.cell (World.block_lt_of_cell? w _ (hcl (i + 1) (by omega)))).trans (hcl (i + 1) (by omega))
        rw [gy] at c1 hy
        rw [Nat.add_zero] at c0
        have t1 : ((i : Int) + 1).toNat = i + 1 := by omega
        have HN2 : Hid (T ++ enc [x, y] ++ enc (xs.drop (i + 3)) = E) := by
          show _ = _; rw [← HT.out, hY, List.append_assoc, List.drop_of_length_le (by rw [HL.out]; omega), show enc [] = [] from rfl, List.append_nil]
        have b0 : bits .or .i64 0 x = x := by have := or8i (a := 0) (y := x) (by omega) (by omega) hx.1 hx.2; simpa [wrap64] using this
        have b1 := or8i (a := x) (y := y) (by omega) (by omega) hy.1 hy.2
        obtain ⟨M, HM⟩ : ∃ M, Hid (x * 256 + y = M) := ⟨_, rfl⟩
        obtain ⟨N, HN⟩ : ∃ N, Hid (M * 256 = N) := ⟨_, rfl⟩
        rw [HM.out] at b1
        have b2 : wrap64 (M * 256) = N := by rw [← HN.out, ← HM.out]; unfold wrap64; omega
        have rx : wrap64 x = x := by unfold wrap64; omega
        have ry : wrap64 y = y := by unfold wrap64; omega
        have i0 : ∀ u, (Instr.index 9 (.string ⟨(65 :: 66 :: 67 :: 68 :: 69 :: 70 :: 71 :: 72 :: 73 :: 74 :: 75 :: 76 :: 77 :: 78 :: 79 :: 80 :: 81 :: 82 :: 83 :: 84 :: 85 :: 86 :: 87 :: 88 :: 89 :: 90 :: 97 :: 98 :: 99 :: 100 :: 101 :: 102 :: 103 :: 104 :: 105 :: 106 :: 107 :: 108 :: 109 :: 110 :: 111 :: 112 :: 113 :: 114 :: 115 :: 116 :: 117 :: 118 :: 119 :: 120 :: 121 :: 122 :: 48 :: 49 :: 50 :: 51 :: 52 :: 53 :: 54 :: 55 :: 56 :: 57 :: 43 :: 47 :: []).toArray⟩) (.int .i64 (bits .and .i64 (N / 262144) 63))).run Tryz.prog u = .ok (.int .u8 (dg (x / 4).toNat)) u := fun u => by
          have e : bits .and .i64 (N / 262144) 63 = x / 4 := by rw [i64_and63, ← HN.out, ← HM.out]; omega
          rw [e]; exact dg_ix _ (by omega) (by omega) u _
        have i1 : ∀ u, (Instr.index 9 (.string ⟨(65 :: 66 :: 67 :: 68 :: 69 :: 70 :: 71 :: 72 :: 73 :: 74 :: 75 :: 76 :: 77 :: 78 :: 79 :: 80 :: 81 :: 82 :: 83 :: 84 :: 85 :: 86 :: 87 :: 88 :: 89 :: 90 :: 97 :: 98 :: 99 :: 100 :: 101 :: 102 :: 103 :: 104 :: 105 :: 106 :: 107 :: 108 :: 109 :: 110 :: 111 :: 112 :: 113 :: 114 :: 115 :: 116 :: 117 :: 118 :: 119 :: 120 :: 121 :: 122 :: 48 :: 49 :: 50 :: 51 :: 52 :: 53 :: 54 :: 55 :: 56 :: 57 :: 43 :: 47 :: []).toArray⟩) (.int .i64 (bits .and .i64 (N / 4096) 63))).run Tryz.prog u = .ok (.int .u8 (dg (x % 4 * 16 + y / 16).toNat)) u := fun u => by
          have e : bits .and .i64 (N / 4096) 63 = x % 4 * 16 + y / 16 := by rw [i64_and63, ← HN.out, ← HM.out]; omega
          rw [e]; exact dg_ix _ (by omega) (by omega) u _
        have i2 : ∀ u, (Instr.index 9 (.string ⟨(65 :: 66 :: 67 :: 68 :: 69 :: 70 :: 71 :: 72 :: 73 :: 74 :: 75 :: 76 :: 77 :: 78 :: 79 :: 80 :: 81 :: 82 :: 83 :: 84 :: 85 :: 86 :: 87 :: 88 :: 89 :: 90 :: 97 :: 98 :: 99 :: 100 :: 101 :: 102 :: 103 :: 104 :: 105 :: 106 :: 107 :: 108 :: 109 :: 110 :: 111 :: 112 :: 113 :: 114 :: 115 :: 116 :: 117 :: 118 :: 119 :: 120 :: 121 :: 122 :: 48 :: 49 :: 50 :: 51 :: 52 :: 53 :: 54 :: 55 :: 56 :: 57 :: 43 :: 47 :: []).toArray⟩) (.int .i64 (bits .and .i64 (N / 64) 63))).run Tryz.prog u = .ok (.int .u8 (dg (y % 16 * 4).toNat)) u := fun u => by
          have e : bits .and .i64 (N / 64) 63 = y % 16 * 4 := by rw [i64_and63, ← HN.out, ← HM.out]; omega
          rw [e]; exact dg_ix _ (by omega) (by omega) u _
        have g0 := dg_bd (v := (x / 4).toNat) (by omega)
        obtain ⟨d0, HD0⟩ : ∃ d, Hid (dg (x / 4).toNat = d) := ⟨_, rfl⟩
        rw [HD0.out] at i0 g0
        have g1 := dg_bd (v := (x % 4 * 16 + y / 16).toNat) (by omega)
        obtain ⟨d1, HD1⟩ : ∃ d, Hid (dg (x % 4 * 16 + y / 16).toNat = d) := ⟨_, rfl⟩
        rw [HD1.out] at i1 g1
        have g2 := dg_bd (v := (y % 16 * 4).toNat) (by omega)
        obtain ⟨d2, HD2⟩ : ∃ d, Hid (dg (y % 16 * 4).toNat = d) := ⟨_, rfl⟩
        rw [HD2.out] at i2 g2
        have HE : Hid (enc [x, y] = [d0, d1, d2, 61]) := by show _ = _; rw [enc, HD0.out, HD1.out, HD2.out]
        clear hx hy gx gy HN HM hcl hbs hlt hi hY
        go_wp2
        refine wp_loop_rounds 4 ?_
        rw [rounds_succ]
        go_wp2
        rw [rounds_succ]
        go_wp2
        rw [rounds_succ]
        go_wp2
        rw [rounds_succ]
        go_wp2
        try rw [b2]
        clear b0 b1 b2 c0 c1
        refine wp_loop_rounds 5 ?_
        rw [rounds_succ]
        go_wp2_with (at_builtin; refine wp_app1K rfl (.tmp 48) (.tmp 56) rfl w.heap.size _ (T.length) (T) rfl hT d0 g0.1 g0.2.1 rfl (by omega) hb.size ?_; intro v0 w0 ho0 hb0)
        clear hT i0 g0
        rw [rounds_succ]
        go_wp2_with (at_builtin; refine wp_app1K rfl (.tmp 48) (.tmp 56) rfl w.heap.size _ (T.length + 1) (T ++ [d0]) rfl ho0 d1 g1.1 g1.2.1 rfl (by omega) (Nat.le_trans hb.size (hb0).size) ?_; intro v1 w1 ho1 hb1)
        replace hb1 := hb0.trans hb1
        clear ho0 i1 g1
        rw [rounds_succ]
        go_wp2_with (at_builtin; refine wp_app1K rfl (.tmp 48) (.tmp 56) rfl w.heap.size _ (T.length + 1 + 1) (T ++ [d0] ++ [d1]) rfl ho1 d2 g2.1 g2.2.1 rfl (by omega) (Nat.le_trans hb.size (hb1).size) ?_; intro v2 w2 ho2 hb2)
        replace hb2 := hb1.trans hb2
        clear ho1 i2 g2
        rw [rounds_succ]
        go_wp2_with (at_builtin; refine wp_app1K rfl (.tmp 45) (.tmp 46) rfl w.heap.size _ (T.length + 1 + 1 + 1) (T ++ [d0] ++ [d1] ++ [d2]) rfl ho2 61 (by omega) (by omega) rfl (by omega) (Nat.le_trans hb.size (hb2).size) ?_; intro v3 w3 ho3 hb3)
        replace hb3 := hb2.trans hb3
        clear ho2
        rw [rounds_succ]
        go_wp2
        refine ⟨⟨i + 3, T ++ enc [x, y], rfl, by omega, HN2, ?_, hb.trans hb3⟩, by simp only [natV]; omega⟩
        rw [HE.out]
        simpa using ho3
      | x :: y :: z :: R =>
        have hrem : i + 3 ≤ n := by have := congrArg List.length hY; rw [List.length_drop, HL.out] at this; simp only [List.length_cons] at this; omega
        have hbs : ∀ j, 0 ≤ xs.getD j 0 ∧ xs.getD j 0 ≤ 255 := fun j => HR.out.bytes.get j
        have q1 : (i : Int) + 1 < (n : Int) := by omega
        have q2 : (i : Int) + 2 < (n : Int) := by omega
        have p1 : ¬ (n : Int) < (i : Int) + 1 := by omega
        have p2 : ¬ (n : Int) < (i : Int) + 2 := by omega
        have p3 : ¬ (n : Int) < (i : Int) + 3 := by omega
        have p0 : ¬ (n : Int) < (i : Int) := by omega
        obtain ⟨b, off, rfl, hcl⟩ := HR.out.flat (by omega)
        have gx : xs.getD (i + 0) 0 = x := by have := drop_get hY 0; simpa using this
        have hx := hbs (i + 0)
        have c0 := (hb.cell (World.block_lt_of_cell? w _ (hcl (i + 0) (by omega)))).trans (hcl (i + 0) (by omega))
        rw [gx] at c0 hx
        have gy : xs.getD (i + 1) 0 = y := by have := drop_get hY 1; simpa using this
        have hy := hbs (i + 1)
        have c1 := (hb.cell (World.block_lt_of_cell? w _ (hcl (i + 1) (by omega)))).trans (hcl (i + 1) (by omega))
        rw [gy] at c1 hy
        have gz : xs.getD (i + 2) 0 = z := by have := drop_get hY 2; simpa using this
        have hz := hbs (i + 2)
        have c2 := (hb.cell (World.block_lt_of_cell? w _ (hcl (i + 2) (by omega)))).trans (hcl (i + 2) (by omega))
        rw [gz] at c2 hz
        rw [Nat.add_zero] at c0
        have t1 : ((i : Int) + 1).toNat = i + 1 := by omega
        have t2 : ((i : Int) + 2).toNat = i + 2 := by omega
        have HN2 : Hid (T ++ enc [x, y, z] ++ enc (xs.drop (i + 3)) = E) := by
          show _ = _; rw [← HT.out, hY, List.append_assoc, show xs.drop (i + 3) = R from by rw [← List.drop_drop, hY]; rfl, ← enc_app [x, y, z] R (by simp)]; rfl
        have b0 : bits .or .i64 0 x = x := by have := or8i (a := 0) (y := x) (by omega) (by omega) hx.1 hx.2; simpa [wrap64] using this
        have b1 := or8i (a := x) (y := y) (by omega) (by omega) hy.1 hy.2
        have b2 := or8i (a := x * 256 + y) (y := z) (by omega) (by omega) hz.1 hz.2
        obtain ⟨M, HM⟩ : ∃ M, Hid (x * 256 + y = M) := ⟨_, rfl⟩
        obtain ⟨N, HN⟩ : ∃ N, Hid (M * 256 + z = N) := ⟨_, rfl⟩
        rw [HM.out] at b1 b2
        rw [HN.out] at b2
        have rx : wrap64 x = x := by unfold wrap64; omega
        have ry : wrap64 y = y := by unfold wrap64; omega
        have rz : wrap64 z = z := by unfold wrap64; omega
        have i0 : ∀ u, (Instr.index 9 (.string ⟨(65 :: 66 :: 67 :: 68 :: 69 :: 70 :: 71 :: 72 :: 73 :: 74 :: 75 :: 76 :: 77 :: 78 :: 79 :: 80 :: 81 :: 82 :: 83 :: 84 :: 85 :: 86 :: 87 :: 88 :: 89 :: 90 :: 97 :: 98 :: 99 :: 100 :: 101 :: 102 :: 103 :: 104 :: 105 :: 106 :: 107 :: 108 :: 109 :: 110 :: 111 :: 112 :: 113 :: 114 :: 115 :: 116 :: 117 :: 118 :: 119 :: 120 :: 121 :: 122 :: 48 :: 49 :: 50 :: 51 :: 52 :: 53 :: 54 :: 55 :: 56 :: 57 :: 43 :: 47 :: []).toArray⟩) (.int .i64 (bits .and .i64 (N / 262144) 63))).run Tryz.prog u = .ok (.int .u8 (dg (x / 4).toNat)) u := fun u => by
          have e : bits .and .i64 (N / 262144) 63 = x / 4 := by rw [i64_and63, ← HN.out, ← HM.out]; omega
          rw [e]; exact dg_ix _ (by omega) (by omega) u _
        have i1 : ∀ u, (Instr.index 9 (.string ⟨(65 :: 66 :: 67 :: 68 :: 69 :: 70 :: 71 :: 72 :: 73 :: 74 :: 75 :: 76 :: 77 :: 78 :: 79 :: 80 :: 81 :: 82 :: 83 :: 84 :: 85 :: 86 :: 87 :: 88 :: 89 :: 90 :: 97 :: 98 :: 99 :: 100 :: 101 :: 102 :: 103 :: 104 :: 105 :: 106 :: 107 :: 108 :: 109 :: 110 :: 111 :: 112 :: 113 :: 114 :: 115 :: 116 :: 117 :: 118 :: 119 :: 120 :: 121 :: 122 :: 48 :: 49 :: 50 :: 51 :: 52 :: 53 :: 54 :: 55 :: 56 :: 57 :: 43 :: 47 :: []).toArray⟩) (.int .i64 (bits .and .i64 (N / 4096) 63))).run Tryz.prog u = .ok (.int .u8 (dg (x % 4 * 16 + y / 16).toNat)) u := fun u => by
          have e : bits .and .i64 (N / 4096) 63 = x % 4 * 16 + y / 16 := by rw [i64_and63, ← HN.out, ← HM.out]; omega
          rw [e]; exact dg_ix _ (by omega) (by omega) u _
        have i2 : ∀ u, (Instr.index 9 (.string ⟨(65 :: 66 :: 67 :: 68 :: 69 :: 70 :: 71 :: 72 :: 73 :: 74 :: 75 :: 76 :: 77 :: 78 :: 79 :: 80 :: 81 :: 82 :: 83 :: 84 :: 85 :: 86 :: 87 :: 88 :: 89 :: 90 :: 97 :: 98 :: 99 :: 100 :: 101 :: 102 :: 103 :: 104 :: 105 :: 106 :: 107 :: 108 :: 109 :: 110 :: 111 :: 112 :: 113 :: 114 :: 115 :: 116 :: 117 :: 118 :: 119 :: 120 :: 121 :: 122 :: 48 :: 49 :: 50 :: 51 :: 52 :: 53 :: 54 :: 55 :: 56 :: 57 :: 43 :: 47 :: []).toArray⟩) (.int .i64 (bits .and .i64 (N / 64) 63))).run Tryz.prog u = .ok (.int .u8 (dg (y % 16 * 4 + z / 64).toNat)) u := fun u => by
          have e : bits .and .i64 (N / 64) 63 = y % 16 * 4 + z / 64 := by rw [i64_and63, ← HN.out, ← HM.out]; omega
          rw [e]; exact dg_ix _ (by omega) (by omega) u _
        have i3 : ∀ u, (Instr.index 9 (.string ⟨(65 :: 66 :: 67 :: 68 :: 69 :: 70 :: 71 :: 72 :: 73 :: 74 :: 75 :: 76 :: 77 :: 78 :: 79 :: 80 :: 81 :: 82 :: 83 :: 84 :: 85 :: 86 :: 87 :: 88 :: 89 :: 90 :: 97 :: 98 :: 99 :: 100 :: 101 :: 102 :: 103 :: 104 :: 105 :: 106 :: 107 :: 108 :: 109 :: 110 :: 111 :: 112 :: 113 :: 114 :: 115 :: 116 :: 117 :: 118 :: 119 :: 120 :: 121 :: 122 :: 48 :: 49 :: 50 :: 51 :: 52 :: 53 :: 54 :: 55 :: 56 :: 57 :: 43 :: 47 :: []).toArray⟩) (.int .i64 (bits .and .i64 (N) 63))).run Tryz.prog u = .ok (.int .u8 (dg (z % 64).toNat)) u := fun u => by
          have e : bits .and .i64 (N) 63 = z % 64 := by rw [i64_and63, ← HN.out, ← HM.out]; omega
          rw [e]; exact dg_ix _ (by omega) (by omega) u _
        have g0 := dg_bd (v := (x / 4).toNat) (by omega)
        obtain ⟨d0, HD0⟩ : ∃ d, Hid (dg (x / 4).toNat = d) := ⟨_, rfl⟩
        rw [HD0.out] at i0 g0
        have g1 := dg_bd (v := (x % 4 * 16 + y / 16).toNat) (by omega)
        obtain ⟨d1, HD1⟩ : ∃ d, Hid (dg (x % 4 * 16 + y / 16).toNat = d) := ⟨_, rfl⟩
        rw [HD1.out] at i1 g1
        have g2 := dg_bd (v := (y % 16 * 4 + z / 64).toNat) (by omega)
        obtain ⟨d2, HD2⟩ : ∃ d, Hid (dg (y % 16 * 4 + z / 64).toNat = d) := ⟨_, rfl⟩
        rw [HD2.out] at i2 g2
        have g3 := dg_bd (v := (z % 64).toNat) (by omega)
        obtain ⟨d3, HD3⟩ : ∃ d, Hid (dg (z % 64).toNat = d) := ⟨_, rfl⟩
        rw [HD3.out] at i3 g3
        have HE : Hid (enc [x, y, z] = [d0, d1, d2, d3]) := by show _ = _; rw [enc, enc, HD0.out, HD1.out, HD2.out, HD3.out]
        clear hx hy hz gx gy gz HN HM hcl hbs hlt hi hY
        go_wp2
        refine wp_loop_rounds 4 ?_
        rw [rounds_succ]
        go_wp2
        rw [rounds_succ]
        go_wp2
        rw [rounds_succ]
        go_wp2
        rw [rounds_succ]
        go_wp2
        clear b0 b1 b2 c0 c1 c2
        refine wp_loop_rounds 5 ?_
        rw [rounds_succ]
        go_wp2_with (at_builtin; refine wp_app1K rfl (.tmp 48) (.tmp 56) rfl w.heap.size _ (T.length) (T) rfl hT d0 g0.1 g0.2.1 rfl (by omega) hb.size ?_; intro v0 w0 ho0 hb0)
        clear hT i0 g0
        rw [rounds_succ]
        go_wp2_with (at_builtin; refine wp_app1K rfl (.tmp 48) (.tmp 56) rfl w.heap.size _ (T.length + 1) (T ++ [d0]) rfl ho0 d1 g1.1 g1.2.1 rfl (by omega) (Nat.le_trans hb.size (hb0).size) ?_; intro v1 w1 ho1 hb1)
        replace hb1 := hb0.trans hb1
        clear ho0 i1 g1
        rw [rounds_succ]
        go_wp2_with (at_builtin; refine wp_app1K rfl (.tmp 48) (.tmp 56) rfl w.heap.size _ (T.length + 1 + 1) (T ++ [d0] ++ [d1]) rfl ho1 d2 g2.1 g2.2.1 rfl (by omega) (Nat.le_trans hb.size (hb1).size) ?_; intro v2 w2 ho2 hb2)
        replace hb2 := hb1.trans hb2
        clear ho1 i2 g2
        rw [rounds_succ]
        go_wp2_with (at_builtin; refine wp_app1K rfl (.tmp 48) (.tmp 56) rfl w.heap.size _ (T.length + 1 + 1 + 1) (T ++ [d0] ++ [d1] ++ [d2]) rfl ho2 d3 g3.1 g3.2.1 rfl (by omega) (Nat.le_trans hb.size (hb2).size) ?_; intro v3 w3 ho3 hb3)
        replace hb3 := hb2.trans hb3
        clear ho2 i3 g3
        rw [rounds_succ]
        go_wp2
        refine ⟨⟨i + 3, T ++ enc [x, y, z], rfl, by omega, HN2, ?_, hb.trans hb3⟩, by simp only [natV]; omega⟩
        rw [HE.out]
        simpa using ho3
    · have hge' : ¬ (i : Int) < (n : Int) := by omega
      have hE : T = E := by have := HT.out; rw [List.drop_of_length_le (by rw [HL.out]; exact hge), enc, List.append_nil] at this; exact this
      subst hE
      obtain ⟨a4, c4, rfl, hr4⟩ := Rd.ofOwn hT HB.out
      have hcv := hr4.string
      go_wp2
      go_ret
      exact ⟨rfl, hb⟩
end Go.Proofs.YtmilcknboaefkaaGreatDoor
