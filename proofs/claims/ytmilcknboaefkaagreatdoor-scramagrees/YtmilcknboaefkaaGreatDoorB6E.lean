/- base64.Encode. -/
import Derived.Test.YtmilcknboaefkaaGreatDoorB6A
import Derived.Test.YtmilcknboaefkaaGreatDoorAnyP
namespace Go.Proofs.YtmilcknboaefkaaGreatDoor
open Go.RowKit

theorem or8 {a y : Int} (h0 : 0 ≤ a) (h1 : a * 256 < 4294967296) (y0 : 0 ≤ y) (y1 : y ≤ 255) : bits .or .u32 (a * 256 % 4294967296) y = a * 256 + y := by
  obtain ⟨m, rfl⟩ : ∃ m : Nat, a = m := ⟨a.toNat, by omega⟩
  obtain ⟨k, rfl⟩ : ∃ k : Nat, y = k := ⟨y.toNat, by omega⟩
  have e : ((m : Int) * 256 % 4294967296) = ((m * 256 : Nat) : Int) := by omega
  rw [e, u32_or_nat _ _ (by omega) (by omega)]
  have : (m * 256 ||| k) = m * 256 + k := by
    rw [show m * 256 = m <<< 8 from by rw [Nat.shiftLeft_eq]]
    exact (Nat.shiftLeft_add_eq_or_of_lt (i := 8) (by omega) m).symm
  rw [this]; omega
theorem dg_key : ∀ j : Fin 64, (((⟨(65 :: 66 :: 67 :: 68 :: 69 :: 70 :: 71 :: 72 :: 73 :: 74 :: 75 :: 76 :: 77 :: 78 :: 79 :: 80 :: 81 :: 82 :: 83 :: 84 :: 85 :: 86 :: 87 :: 88 :: 89 :: 90 :: 97 :: 98 :: 99 :: 100 :: 101 :: 102 :: 103 :: 104 :: 105 :: 106 :: 107 :: 108 :: 109 :: 110 :: 111 :: 112 :: 113 :: 114 :: 115 :: 116 :: 117 :: 118 :: 119 :: 120 :: 121 :: 122 :: 48 :: 49 :: 50 :: 51 :: 52 :: 53 :: 54 :: 55 :: 56 :: 57 :: 43 :: 47 :: []).toArray⟩ : ByteArray).data.toList.getD j.val 0).toNat : Int) = dg j.val := by decide +kernel
theorem byte_at (S : ByteArray) (j : Nat) (h : j < S.size) : S[j] = S.data.toList.getD j 0 := by
  have h' : j < S.data.size := h
  show S.data[j] = _
  simp [List.getD, Array.getElem?_eq_getElem h']
theorem dg_ix (k : Int) (h0 : 0 ≤ k) (h1 : k < 64) (w : World) (K : IntKind) : (Instr.index 9 (.string ⟨(65 :: 66 :: 67 :: 68 :: 69 :: 70 :: 71 :: 72 :: 73 :: 74 :: 75 :: 76 :: 77 :: 78 :: 79 :: 80 :: 81 :: 82 :: 83 :: 84 :: 85 :: 86 :: 87 :: 88 :: 89 :: 90 :: 97 :: 98 :: 99 :: 100 :: 101 :: 102 :: 103 :: 104 :: 105 :: 106 :: 107 :: 108 :: 109 :: 110 :: 111 :: 112 :: 113 :: 114 :: 115 :: 116 :: 117 :: 118 :: 119 :: 120 :: 121 :: 122 :: 48 :: 49 :: 50 :: 51 :: 52 :: 53 :: 54 :: 55 :: 56 :: 57 :: 43 :: 47 :: []).toArray⟩) (.int K k)).run Tryz.prog w = .ok (.int .u8 (dg k.toNat)) w := by
  rw [run_index_string w 9 _ K _ Tryz.underlying9, dif_pos ⟨h0, by show k < 64; omega⟩]
  have hm : k.toNat < 64 := by omega
  have e := dg_key ⟨k.toNat, hm⟩
  have e2 := byte_at ⟨(65 :: 66 :: 67 :: 68 :: 69 :: 70 :: 71 :: 72 :: 73 :: 74 :: 75 :: 76 :: 77 :: 78 :: 79 :: 80 :: 81 :: 82 :: 83 :: 84 :: 85 :: 86 :: 87 :: 88 :: 89 :: 90 :: 97 :: 98 :: 99 :: 100 :: 101 :: 102 :: 103 :: 104 :: 105 :: 106 :: 107 :: 108 :: 109 :: 110 :: 111 :: 112 :: 113 :: 114 :: 115 :: 116 :: 117 :: 118 :: 119 :: 120 :: 121 :: 122 :: 48 :: 49 :: 50 :: 51 :: 52 :: 53 :: 54 :: 55 :: 56 :: 57 :: 43 :: 47 :: []).toArray⟩ k.toNat hm
  exact congrArg (fun z => Result.ok (Value.int .u8 z) w) ((congrArg (fun b : UInt8 => (b.toNat : Int)) e2).trans e)
/-- append(v, "="). -/
theorem wp_appPad {w : World} {ops : Array Oper} {rest : List Oper} {o : Oper} {a : Act} {Q : Exit → Act → World → Prop} (hgd : o.guard = none) (s : Operand)
    (ho : o.op = .call { callee := .builtin .append, args := #[s, .const (.string ⟨#[61]⟩)], argTypes := #[22, 9] })
    (base : Nat) (v : Value) (n : Nat) (xs : List Int) (hs : a.eval s = v) (hown : w.ownsRow base 5 1 v n (bc xs)) (hb : n ≤ 100000000) (hbase : base ≤ w.heap.size)
    (h : ∀ v' w', w'.ownsRow base 5 1 v' (n + 1) (bc (xs ++ [61])) → Below base w w' → wpList Tryz.prog ops Q rest (a.put o.dst v') w') : wpList Tryz.prog ops Q (o :: rest) a w := by
  obtain ⟨i0, hi, hz0, hz1, hz2⟩ := info_parts Tryz.info5
  have hsz : (⟨#[61]⟩ : ByteArray).size = 1 := rfl
  refine Lib.wpList_append_own_string w hgd s _ 22 9 ho base 5 i0 Tryz.underlying22 Tryz.underlying9 hi hz0 hz1 hz2 v n (bc xs) hs hown ⟨#[61]⟩ rfl (by unfold maxLen; omega) (by omega) hbase ?_
  intro v' w' h1 h2 _
  refine h v' w' ?_ ((Below.refl _ _).grown h2 hbase (fun k hk => (hown.lt k hk).1))
  rw [hsz] at h1
  simpa [bc, Lib.strCells] using h1
set_option maxHeartbeats 1000000 in
theorem put1 (v : Value) (n : Nat) (T : List Int) (B : Nat) (b off : Nat) (c : Nat) (x : Int) (w : World) (ho : w.ownsRow B 5 1 v n (bc T)) (hn : n ≤ 10000000) (hB : B ≤ w.heap.size) (hR : Rd w (some ⟨b, off, none⟩) 1 c [x]) :
    Calls Tryz.prog 52 #[v, .slice (some ⟨b, off, none⟩) 1 c] w fun e w' => ∃ v', e = .returned v' ∧ w'.ownsRow B 5 1 v' (n + 4) (bc (T ++ enc [x])) ∧ Below B w w' := by
  have hx := hR.bytes x (by simp)
  have c0 := hR.cells _ rfl 0 (by omega)
  simp only [List.getD, List.getElem?_cons_zero, Option.getD_some] at c0
  rw [add_flat] at c0
  rw [Nat.add_zero] at c0
  have b0 : bits .or .u32 0 x = x := by have := or8 (a := 0) (y := x) (by omega) (by omega) hx.1 hx.2; simpa using this
  obtain ⟨M, HM⟩ : ∃ M, Hid (x * 256 = M) := ⟨_, rfl⟩
  obtain ⟨N, HN⟩ : ∃ N, Hid (M * 256 = N) := ⟨_, rfl⟩
  have b1 : x * 256 % 4294967296 = M := by rw [← HM.out]; omega
  have b2 : M * 256 % 4294967296 = N := by rw [← HN.out, ← HM.out]; omega
  have rx : x % 4294967296 = x := by omega
  have i0 : ∀ u, (Instr.index 9 (.string ⟨(65 :: 66 :: 67 :: 68 :: 69 :: 70 :: 71 :: 72 :: 73 :: 74 :: 75 :: 76 :: 77 :: 78 :: 79 :: 80 :: 81 :: 82 :: 83 :: 84 :: 85 :: 86 :: 87 :: 88 :: 89 :: 90 :: 97 :: 98 :: 99 :: 100 :: 101 :: 102 :: 103 :: 104 :: 105 :: 106 :: 107 :: 108 :: 109 :: 110 :: 111 :: 112 :: 113 :: 114 :: 115 :: 116 :: 117 :: 118 :: 119 :: 120 :: 121 :: 122 :: 48 :: 49 :: 50 :: 51 :: 52 :: 53 :: 54 :: 55 :: 56 :: 57 :: 43 :: 47 :: []).toArray⟩) (.int .u32 ((N / 262144).tmod 64))).run Tryz.prog u = .ok (.int .u8 (dg (x / 4).toNat)) u := fun u => by
    have e : (N / 262144).tmod 64 = x / 4 := by rw [Int.tmod_eq_emod_of_nonneg (by rw [← HN.out, ← HM.out]; omega), ← HN.out, ← HM.out]; omega
    rw [e]; exact dg_ix _ (by omega) (by omega) u _
  have i1 : ∀ u, (Instr.index 9 (.string ⟨(65 :: 66 :: 67 :: 68 :: 69 :: 70 :: 71 :: 72 :: 73 :: 74 :: 75 :: 76 :: 77 :: 78 :: 79 :: 80 :: 81 :: 82 :: 83 :: 84 :: 85 :: 86 :: 87 :: 88 :: 89 :: 90 :: 97 :: 98 :: 99 :: 100 :: 101 :: 102 :: 103 :: 104 :: 105 :: 106 :: 107 :: 108 :: 109 :: 110 :: 111 :: 112 :: 113 :: 114 :: 115 :: 116 :: 117 :: 118 :: 119 :: 120 :: 121 :: 122 :: 48 :: 49 :: 50 :: 51 :: 52 :: 53 :: 54 :: 55 :: 56 :: 57 :: 43 :: 47 :: []).toArray⟩) (.int .u32 ((N / 4096).tmod 64))).run Tryz.prog u = .ok (.int .u8 (dg (x % 4 * 16).toNat)) u := fun u => by
    have e : (N / 4096).tmod 64 = x % 4 * 16 := by rw [Int.tmod_eq_emod_of_nonneg (by rw [← HN.out, ← HM.out]; omega), ← HN.out, ← HM.out]; omega
    rw [e]; exact dg_ix _ (by omega) (by omega) u _
  have g0 := dg_bd (v := (x / 4).toNat) (by omega)
  obtain ⟨d0, HD0⟩ : ∃ d, Hid (dg (x / 4).toNat = d) := ⟨_, rfl⟩
  rw [HD0.out] at i0 g0
  have g1 := dg_bd (v := (x % 4 * 16).toNat) (by omega)
  obtain ⟨d1, HD1⟩ : ∃ d, Hid (dg (x % 4 * 16).toNat = d) := ⟨_, rfl⟩
  rw [HD1.out] at i1 g1
  have HE : Hid (enc [x] = [d0, d1, 61, 61]) := by show _ = _; rw [enc, HD0.out, HD1.out]
  clear hx HN HM hR
  go_enter Tryz.func52, Tryz.ntmps52
  go_wp2
  refine wp_loop_rounds 4 ?_
  rw [rounds_succ]
  go_wp2
  rw [rounds_succ]
  go_wp2
  rw [rounds_succ]
  go_wp2
  rw [rounds_succ]
  go_wp2
  rw [b2]
  clear b0 b1 b2 c0
  refine wp_loop_rounds 5 ?_
  rw [rounds_succ]
  go_wp2_with (at_builtin; refine wp_app1K rfl (.tmp 41) (.tmp 44) rfl B _ (n) (T) rfl ho d0 g0.1 g0.2.1 rfl (by omega) hB ?_; intro v0 w0 ho0 hb0)
  clear ho i0 g0
  rw [rounds_succ]
  go_wp2_with (at_builtin; refine wp_app1K rfl (.tmp 41) (.tmp 44) rfl B _ (n + 1) (T ++ [d0]) rfl ho0 d1 g1.1 g1.2.1 rfl (by omega) (Nat.le_trans hB (hb0).size) ?_; intro v1 w1 ho1 hb1)
  replace hb1 := hb0.trans hb1
  clear ho0 i1 g1
  rw [rounds_succ]
  go_wp2_with (at_builtin; refine wp_appPad rfl (.tmp 33) rfl B _ (n + 1 + 1) (T ++ [d0] ++ [d1]) rfl ho1 (by omega) (Nat.le_trans hB (hb1).size) ?_; intro v2 w2 ho2 hb2)
  replace hb2 := hb1.trans hb2
  clear ho1
  rw [rounds_succ]
  go_wp2_with (at_builtin; refine wp_appPad rfl (.tmp 33) rfl B _ (n + 1 + 1 + 1) (T ++ [d0] ++ [d1] ++ [61]) rfl ho2 (by omega) (Nat.le_trans hB (hb2).size) ?_; intro v3 w3 ho3 hb3)
  replace hb3 := hb2.trans hb3
  clear ho2
  rw [rounds_succ]
  go_wp2
  go_ret
  refine ⟨_, rfl, ?_, hb3⟩
  rw [HE.out]
  simpa using ho3

set_option maxHeartbeats 1000000 in
theorem put2 (v : Value) (n : Nat) (T : List Int) (B : Nat) (b off : Nat) (c : Nat) (x y : Int) (w : World) (ho : w.ownsRow B 5 1 v n (bc T)) (hn : n ≤ 10000000) (hB : B ≤ w.heap.size) (hR : Rd w (some ⟨b, off, none⟩) 2 c [x, y]) :
    Calls Tryz.prog 52 #[v, .slice (some ⟨b, off, none⟩) 2 c] w fun e w' => ∃ v', e = .returned v' ∧ w'.ownsRow B 5 1 v' (n + 4) (bc (T ++ enc [x, y])) ∧ Below B w w' := by
  have hx := hR.bytes x (by simp)
  have hy := hR.bytes y (by simp)
  have c0 := hR.cells _ rfl 0 (by omega)
  have c1 := hR.cells _ rfl 1 (by omega)
  simp only [List.getD, List.getElem?_cons_zero, List.getElem?_cons_succ, Option.getD_some] at c0 c1
  rw [add_flat] at c0 c1
  rw [Nat.add_zero] at c0
  have b0 : bits .or .u32 0 x = x := by have := or8 (a := 0) (y := x) (by omega) (by omega) hx.1 hx.2; simpa using this
  have b1 := or8 (a := x) (y := y) (by omega) (by omega) hy.1 hy.2
  obtain ⟨M, HM⟩ : ∃ M, Hid (x * 256 + y = M) := ⟨_, rfl⟩
  obtain ⟨N, HN⟩ : ∃ N, Hid (M * 256 = N) := ⟨_, rfl⟩
  rw [HM.out] at b1
  have b2 : M * 256 % 4294967296 = N := by rw [← HN.out, ← HM.out]; omega
  have rx : x % 4294967296 = x := by omega
  have ry : y % 4294967296 = y := by omega
  have i0 : ∀ u, (Instr.index 9 (.string ⟨(65 :: 66 :: 67 :: 68 :: 69 :: 70 :: 71 :: 72 :: 73 :: 74 :: 75 :: 76 :: 77 :: 78 :: 79 :: 80 :: 81 :: 82 :: 83 :: 84 :: 85 :: 86 :: 87 :: 88 :: 89 :: 90 :: 97 :: 98 :: 99 :: 100 :: 101 :: 102 :: 103 :: 104 :: 105 :: 106 :: 107 :: 108 :: 109 :: 110 :: 111 :: 112 :: 113 :: 114 :: 115 :: 116 :: 117 :: 118 :: 119 :: 120 :: 121 :: 122 :: 48 :: 49 :: 50 :: 51 :: 52 :: 53 :: 54 :: 55 :: 56 :: 57 :: 43 :: 47 :: []).toArray⟩) (.int .u32 ((N / 262144).tmod 64))).run Tryz.prog u = .ok (.int .u8 (dg (x / 4).toNat)) u := fun u => by
    have e : (N / 262144).tmod 64 = x / 4 := by rw [Int.tmod_eq_emod_of_nonneg (by rw [← HN.out, ← HM.out]; omega), ← HN.out, ← HM.out]; omega
    rw [e]; exact dg_ix _ (by omega) (by omega) u _
  have i1 : ∀ u, (Instr.index 9 (.string ⟨(65 :: 66 :: 67 :: 68 :: 69 :: 70 :: 71 :: 72 :: 73 :: 74 :: 75 :: 76 :: 77 :: 78 :: 79 :: 80 :: 81 :: 82 :: 83 :: 84 :: 85 :: 86 :: 87 :: 88 :: 89 :: 90 :: 97 :: 98 :: 99 :: 100 :: 101 :: 102 :: 103 :: 104 :: 105 :: 106 :: 107 :: 108 :: 109 :: 110 :: 111 :: 112 :: 113 :: 114 :: 115 :: 116 :: 117 :: 118 :: 119 :: 120 :: 121 :: 122 :: 48 :: 49 :: 50 :: 51 :: 52 :: 53 :: 54 :: 55 :: 56 :: 57 :: 43 :: 47 :: []).toArray⟩) (.int .u32 ((N / 4096).tmod 64))).run Tryz.prog u = .ok (.int .u8 (dg (x % 4 * 16 + y / 16).toNat)) u := fun u => by
    have e : (N / 4096).tmod 64 = x % 4 * 16 + y / 16 := by rw [Int.tmod_eq_emod_of_nonneg (by rw [← HN.out, ← HM.out]; omega), ← HN.out, ← HM.out]; omega
    rw [e]; exact dg_ix _ (by omega) (by omega) u _
  have i2 : ∀ u, (Instr.index 9 (.string ⟨(65 :: 66 :: 67 :: 68 :: 69 :: 70 :: 71 :: 72 :: 73 :: 74 :: 75 :: 76 :: 77 :: 78 :: 79 :: 80 :: 81 :: 82 :: 83 :: 84 :: 85 :: 86 :: 87 :: 88 :: 89 :: 90 :: 97 :: 98 :: 99 :: 100 :: 101 :: 102 :: 103 :: 104 :: 105 :: 106 :: 107 :: 108 :: 109 :: 110 :: 111 :: 112 :: 113 :: 114 :: 115 :: 116 :: 117 :: 118 :: 119 :: 120 :: 121 :: 122 :: 48 :: 49 :: 50 :: 51 :: 52 :: 53 :: 54 :: 55 :: 56 :: 57 :: 43 :: 47 :: []).toArray⟩) (.int .u32 ((N / 64).tmod 64))).run Tryz.prog u = .ok (.int .u8 (dg (y % 16 * 4).toNat)) u := fun u => by
    have e : (N / 64).tmod 64 = y % 16 * 4 := by rw [Int.tmod_eq_emod_of_nonneg (by rw [← HN.out, ← HM.out]; omega), ← HN.out, ← HM.out]; omega
    rw [e]; exact dg_ix _ (by omega) (by omega) u _
  have g0 := dg_bd (v := (x / 4).toNat) (by omega)
  obtain ⟨d0, HD0⟩ : ∃ d, Hid (dg (x / 4).toNat = d) := ⟨_, rfl⟩
  rw [HD0.out] at i0 g0
  have g1 := dg_bd (v := (x % 4 * 16 + y / 16).toNat) (by omega)
  obtain ⟨d1, HD1⟩ : ∃ d, Hid (dg (x % 4 * 16 + y / 16).toNat = d) := ⟨_, rfl⟩
  rw [HD1.out] at i1 g1
  have g2 := dg_bd (v := (y % 16 * 4).toNat) (by omega)
  obtain ⟨d2, HD2⟩ : ∃ d, Hid (dg (y % 16 * 4).toNat = d) := ⟨_, rfl⟩
  rw [HD2.out] at i2 g2
  have HE : Hid (enc [x, y] = [d0, d1, d2, 61]) := by show _ = _; rw [enc, HD0.out, HD1.out, HD2.out]
  clear hx hy HN HM hR
  go_enter Tryz.func52, Tryz.ntmps52
  go_wp2
  refine wp_loop_rounds 4 ?_
  rw [rounds_succ]
  go_wp2
  rw [rounds_succ]
  go_wp2
  rw [rounds_succ]
  go_wp2
  rw [rounds_succ]
  go_wp2
  rw [b2]
  clear b0 b1 b2 c0 c1
  refine wp_loop_rounds 5 ?_
  rw [rounds_succ]
  go_wp2_with (at_builtin; refine wp_app1K rfl (.tmp 41) (.tmp 44) rfl B _ (n) (T) rfl ho d0 g0.1 g0.2.1 rfl (by omega) hB ?_; intro v0 w0 ho0 hb0)
  clear ho i0 g0
  rw [rounds_succ]
  go_wp2_with (at_builtin; refine wp_app1K rfl (.tmp 41) (.tmp 44) rfl B _ (n + 1) (T ++ [d0]) rfl ho0 d1 g1.1 g1.2.1 rfl (by omega) (Nat.le_trans hB (hb0).size) ?_; intro v1 w1 ho1 hb1)
  replace hb1 := hb0.trans hb1
  clear ho0 i1 g1
  rw [rounds_succ]
  go_wp2_with (at_builtin; refine wp_app1K rfl (.tmp 41) (.tmp 44) rfl B _ (n + 1 + 1) (T ++ [d0] ++ [d1]) rfl ho1 d2 g2.1 g2.2.1 rfl (by omega) (Nat.le_trans hB (hb1).size) ?_; intro v2 w2 ho2 hb2)
  replace hb2 := hb1.trans hb2
  clear ho1 i2 g2
  rw [rounds_succ]
  go_wp2_with (at_builtin; refine wp_appPad rfl (.tmp 33) rfl B _ (n + 1 + 1 + 1) (T ++ [d0] ++ [d1] ++ [d2]) rfl ho2 (by omega) (Nat.le_trans hB (hb2).size) ?_; intro v3 w3 ho3 hb3)
  replace hb3 := hb2.trans hb3
  clear ho2
  rw [rounds_succ]
  go_wp2
  go_ret
  refine ⟨_, rfl, ?_, hb3⟩
  rw [HE.out]
  simpa using ho3

set_option maxHeartbeats 1000000 in
theorem put3 (v : Value) (n : Nat) (T : List Int) (B : Nat) (b off : Nat) (c : Nat) (x y z : Int) (w : World) (ho : w.ownsRow B 5 1 v n (bc T)) (hn : n ≤ 10000000) (hB : B ≤ w.heap.size) (hR : Rd w (some ⟨b, off, none⟩) 3 c [x, y, z]) :
    Calls Tryz.prog 52 #[v, .slice (some ⟨b, off, none⟩) 3 c] w fun e w' => ∃ v', e = .returned v' ∧ w'.ownsRow B 5 1 v' (n + 4) (bc (T ++ enc [x, y, z])) ∧ Below B w w' := by
  have hx := hR.bytes x (by simp)
  have hy := hR.bytes y (by simp)
  have hz := hR.bytes z (by simp)
  have c0 := hR.cells _ rfl 0 (by omega)
  have c1 := hR.cells _ rfl 1 (by omega)
  have c2 := hR.cells _ rfl 2 (by omega)
  simp only [List.getD, List.getElem?_cons_zero, List.getElem?_cons_succ, Option.getD_some] at c0 c1 c2
  rw [add_flat] at c0 c1 c2
  rw [Nat.add_zero] at c0
  have b0 : bits .or .u32 0 x = x := by have := or8 (a := 0) (y := x) (by omega) (by omega) hx.1 hx.2; simpa using this
  have b1 := or8 (a := x) (y := y) (by omega) (by omega) hy.1 hy.2
  have b2 := or8 (a := x * 256 + y) (y := z) (by omega) (by omega) hz.1 hz.2
  obtain ⟨M, HM⟩ : ∃ M, Hid (x * 256 + y = M) := ⟨_, rfl⟩
  obtain ⟨N, HN⟩ : ∃ N, Hid (M * 256 + z = N) := ⟨_, rfl⟩
  rw [HM.out] at b1 b2
  rw [HN.out] at b2
  have rx : x % 4294967296 = x := by omega
  have ry : y % 4294967296 = y := by omega
  have rz : z % 4294967296 = z := by omega
  have i0 : ∀ u, (Instr.index 9 (.string ⟨(65 :: 66 :: 67 :: 68 :: 69 :: 70 :: 71 :: 72 :: 73 :: 74 :: 75 :: 76 :: 77 :: 78 :: 79 :: 80 :: 81 :: 82 :: 83 :: 84 :: 85 :: 86 :: 87 :: 88 :: 89 :: 90 :: 97 :: 98 :: 99 :: 100 :: 101 :: 102 :: 103 :: 104 :: 105 :: 106 :: 107 :: 108 :: 109 :: 110 :: 111 :: 112 :: 113 :: 114 :: 115 :: 116 :: 117 :: 118 :: 119 :: 120 :: 121 :: 122 :: 48 :: 49 :: 50 :: 51 :: 52 :: 53 :: 54 :: 55 :: 56 :: 57 :: 43 :: 47 :: []).toArray⟩) (.int .u32 ((N / 262144).tmod 64))).run Tryz.prog u = .ok (.int .u8 (dg (x / 4).toNat)) u := fun u => by
    have e : (N / 262144).tmod 64 = x / 4 := by rw [Int.tmod_eq_emod_of_nonneg (by rw [← HN.out, ← HM.out]; omega), ← HN.out, ← HM.out]; omega
    rw [e]; exact dg_ix _ (by omega) (by omega) u _
  have i1 : ∀ u, (Instr.index 9 (.string ⟨(65 :: 66 :: 67 :: 68 :: 69 :: 70 :: 71 :: 72 :: 73 :: 74 :: 75 :: 76 :: 77 :: 78 :: 79 :: 80 :: 81 :: 82 :: 83 :: 84 :: 85 :: 86 :: 87 :: 88 :: 89 :: 90 :: 97 :: 98 :: 99 :: 100 :: 101 :: 102 :: 103 :: 104 :: 105 :: 106 :: 107 :: 108 :: 109 :: 110 :: 111 :: 112 :: 113 :: 114 :: 115 :: 116 :: 117 :: 118 :: 119 :: 120 :: 121 :: 122 :: 48 :: 49 :: 50 :: 51 :: 52 :: 53 :: 54 :: 55 :: 56 :: 57 :: 43 :: 47 :: []).toArray⟩) (.int .u32 ((N / 4096).tmod 64))).run Tryz.prog u = .ok (.int .u8 (dg (x % 4 * 16 + y / 16).toNat)) u := fun u => by
    have e : (N / 4096).tmod 64 = x % 4 * 16 + y / 16 := by rw [Int.tmod_eq_emod_of_nonneg (by rw [← HN.out, ← HM.out]; omega), ← HN.out, ← HM.out]; omega
    rw [e]; exact dg_ix _ (by omega) (by omega) u _
  have i2 : ∀ u, (Instr.index 9 (.string ⟨(65 :: 66 :: 67 :: 68 :: 69 :: 70 :: 71 :: 72 :: 73 :: 74 :: 75 :: 76 :: 77 :: 78 :: 79 :: 80 :: 81 :: 82 :: 83 :: 84 :: 85 :: 86 :: 87 :: 88 :: 89 :: 90 :: 97 :: 98 :: 99 :: 100 :: 101 :: 102 :: 103 :: 104 :: 105 :: 106 :: 107 :: 108 :: 109 :: 110 :: 111 :: 112 :: 113 :: 114 :: 115 :: 116 :: 117 :: 118 :: 119 :: 120 :: 121 :: 122 :: 48 :: 49 :: 50 :: 51 :: 52 :: 53 :: 54 :: 55 :: 56 :: 57 :: 43 :: 47 :: []).toArray⟩) (.int .u32 ((N / 64).tmod 64))).run Tryz.prog u = .ok (.int .u8 (dg (y % 16 * 4 + z / 64).toNat)) u := fun u => by
    have e : (N / 64).tmod 64 = y % 16 * 4 + z / 64 := by rw [Int.tmod_eq_emod_of_nonneg (by rw [← HN.out, ← HM.out]; omega), ← HN.out, ← HM.out]; omega
    rw [e]; exact dg_ix _ (by omega) (by omega) u _
  have i3 : ∀ u, (Instr.index 9 (.string ⟨(65 :: 66 :: 67 :: 68 :: 69 :: 70 :: 71 :: 72 :: 73 :: 74 :: 75 :: 76 :: 77 :: 78 :: 79 :: 80 :: 81 :: 82 :: 83 :: 84 :: 85 :: 86 :: 87 :: 88 :: 89 :: 90 :: 97 :: 98 :: 99 :: 100 :: 101 :: 102 :: 103 :: 104 :: 105 :: 106 :: 107 :: 108 :: 109 :: 110 :: 111 :: 112 :: 113 :: 114 :: 115 :: 116 :: 117 :: 118 :: 119 :: 120 :: 121 :: 122 :: 48 :: 49 :: 50 :: 51 :: 52 :: 53 :: 54 :: 55 :: 56 :: 57 :: 43 :: 47 :: []).toArray⟩) (.int .u32 ((N).tmod 64))).run Tryz.prog u = .ok (.int .u8 (dg (z % 64).toNat)) u := fun u => by
    have e : (N).tmod 64 = z % 64 := by rw [Int.tmod_eq_emod_of_nonneg (by rw [← HN.out, ← HM.out]; omega), ← HN.out, ← HM.out]; omega
    rw [e]; exact dg_ix _ (by omega) (by omega) u _
  have g0 := dg_bd (v := (x / 4).toNat) (by omega)
  obtain ⟨d0, HD0⟩ : ∃ d, Hid (dg (x / 4).toNat = d) := ⟨_, rfl⟩
  rw [HD0.out] at i0 g0
  have g1 := dg_bd (v := (x % 4 * 16 + y / 16).toNat) (by omega)
  obtain ⟨d1, HD1⟩ : ∃ d, Hid (dg (x % 4 * 16 + y / 16).toNat = d) := ⟨_, rfl⟩
  rw [HD1.out] at i1 g1
  have g2 := dg_bd (v := (y % 16 * 4 + z / 64).toNat) (by omega)
  obtain ⟨d2, HD2⟩ : ∃ d, Hid (dg (y % 16 * 4 + z / 64).toNat = d) := ⟨_, rfl⟩
  rw [HD2.out] at i2 g2
  have g3 := dg_bd (v := (z % 64).toNat) (by omega)
  obtain ⟨d3, HD3⟩ : ∃ d, Hid (dg (z % 64).toNat = d) := ⟨_, rfl⟩
  rw [HD3.out] at i3 g3
  have HE : Hid (enc [x, y, z] = [d0, d1, d2, d3]) := by show _ = _; rw [enc, enc, HD0.out, HD1.out, HD2.out, HD3.out]
  clear hx hy hz HN HM hR
  go_enter Tryz.func52, Tryz.ntmps52
  go_wp2
  refine wp_loop_rounds 4 ?_
  rw [rounds_succ]
  go_wp2
  rw [rounds_succ]
  go_wp2
  rw [rounds_succ]
  go_wp2
  rw [rounds_succ]
  go_wp2
  clear b0 b1 b2 c0 c1 c2
  refine wp_loop_rounds 5 ?_
  rw [rounds_succ]
  go_wp2_with (at_builtin; refine wp_app1K rfl (.tmp 41) (.tmp 44) rfl B _ (n) (T) rfl ho d0 g0.1 g0.2.1 rfl (by omega) hB ?_; intro v0 w0 ho0 hb0)
  clear ho i0 g0
  rw [rounds_succ]
  go_wp2_with (at_builtin; refine wp_app1K rfl (.tmp 41) (.tmp 44) rfl B _ (n + 1) (T ++ [d0]) rfl ho0 d1 g1.1 g1.2.1 rfl (by omega) (Nat.le_trans hB (hb0).size) ?_; intro v1 w1 ho1 hb1)
  replace hb1 := hb0.trans hb1
  clear ho0 i1 g1
  rw [rounds_succ]
  go_wp2_with (at_builtin; refine wp_app1K rfl (.tmp 41) (.tmp 44) rfl B _ (n + 1 + 1) (T ++ [d0] ++ [d1]) rfl ho1 d2 g2.1 g2.2.1 rfl (by omega) (Nat.le_trans hB (hb1).size) ?_; intro v2 w2 ho2 hb2)
  replace hb2 := hb1.trans hb2
  clear ho1 i2 g2
  rw [rounds_succ]
  go_wp2_with (at_builtin; refine wp_app1K rfl (.tmp 41) (.tmp 44) rfl B _ (n + 1 + 1 + 1) (T ++ [d0] ++ [d1] ++ [d2]) rfl ho2 d3 g3.1 g3.2.1 rfl (by omega) (Nat.le_trans hB (hb2).size) ?_; intro v3 w3 ho3 hb3)
  replace hb3 := hb2.trans hb3
  clear ho2 i3 g3
  rw [rounds_succ]
  go_wp2
  go_ret
  refine ⟨_, rfl, ?_, hb3⟩
  rw [HE.out]
  simpa using ho3

end Go.Proofs.YtmilcknboaefkaaGreatDoor
