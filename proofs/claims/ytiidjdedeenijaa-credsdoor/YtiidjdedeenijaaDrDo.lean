/- CredsDoor: any tries at a door: the program answers as the document. -/
import Derived.Test.YtiidjdedeenijaaDrDb
namespace Go.Proofs.Ytiidjdedeenijaa
open Go.RowKit

theorem Both.grow {w0 : World} {B d bm rd : Nat} {most : Int} {sec : Nat} {wr : World} {n L n' L' : Nat} {m : ByteArray → Option Tr} {F : ByteArray → Tr} (h : Both w0 B d bm rd most sec wr n L m F) (hn : n ≤ n') (hL : L ≤ L') : Both w0 B d bm rd most sec wr n' L' m F := by
  obtain ⟨v2, v3, v4, us, cs, ts, hR, hl, hF⟩ := h.ref
  exact ⟨h.door.mono hn, h.blk, ⟨v2, v3, v4, us, cs, ts, hR, by omega, hF⟩, h.bel, h.hb, h.hB, h.hW⟩

/-- A row of tries. -/
structure TRd (w : World) (a : Option Addr) (n c : Nat) : Prop where
  cap : n ≤ c
  most : c ≤ maxLen
  flat : 0 < n → ∃ b off, a = some ⟨b, off, none⟩ ∧ ∀ j, j < n → ∃ (D : Int) (U : ByteArray) (T : Nat), w.cell? ⟨b, off + j * 3, none⟩ = some (.int .i64 D) ∧ w.cell? ⟨b, off + j * 3 + 1, none⟩ = some (.string U) ∧ w.cell? ⟨b, off + j * 3 + 2, none⟩ = some (.int .u64 (T : Int))

theorem TRd.below {w w' : World} {a : Option Addr} {n c : Nat} (h : TRd w a n c) (hb : Below w.heap.size w w') : TRd w' a n c :=
  ⟨h.cap, h.most, fun hn => by
    obtain ⟨b, off, ha, hc⟩ := h.flat hn
    refine ⟨b, off, ha, fun j hj => ?_⟩
    obtain ⟨D, U, T, h1, h2, h3⟩ := hc j hj
    exact ⟨D, U, T, (hb.cell (World.block_lt_of_cell? w _ h1)).trans h1, (hb.cell (World.block_lt_of_cell? w _ h2)).trans h2, (hb.cell (World.block_lt_of_cell? w _ h3)).trans h3⟩⟩

set_option maxRecDepth 100000 in
set_option maxHeartbeats 1600000 in
theorem door_bad (M : Int) (S : Nat) (a : Option Addr) (n c : Nat) (w : World) (h : M < 1 ∨ Fl.nan S = true ∨ flt S 0 = true) :
    Calls Try.prog 3 #[.int .i64 M, .int .u64 S, .slice a n c] w fun e w' => e = .returned (.bool true) ∧ Below w.heap.size w w' := by
  have hfr := run_from
  have hW := wakes_any
  go_enter Try.func3, Try.ntmps3
  go_wp2_with (first
    | (go_at_call 7; refine (new_bad M S h _).mono ?_; rintro e w1 ⟨rfl, rfl⟩)
    | (go_at_call 8; refine (refNew_bad M S h _).mono ?_; rintro e w1 ⟨rfl, rfl⟩)
    | (go_at_call 9; refine (hW _).mono ?_; rintro e w2 ⟨rfl, hb2⟩))
  go_ret
  exact ⟨rfl, hb2⟩

set_option maxRecDepth 100000 in
set_option maxHeartbeats 3200000 in
theorem door_ok (M : Int) (S : Nat) (a : Option Addr) (n c : Nat) (w : World) (hR : TRd w a n c) (h1 : 1 ≤ M) (hM : M ≤ 9223372036854775807) (h2 : Fl.nan S = false) (h3 : flt S 0 = false) :
    Calls Try.prog 3 #[.int .i64 M, .int .u64 S, .slice a n c] w fun e w' => e = .returned (.bool true) ∧ Below w.heap.size w w' := by
  have hfr := run_from
  have hcn := hR.cap
  have hcm : c ≤ 9223372036854775807 := hR.most
  go_enter Try.func3, Try.ntmps3
  go_upto_region 8 with (first
    | (go_at_call 7; refine (new_blk M S h1 h2 h3 _).mono ?_; rintro e w1 ⟨d, bm, rfl, hD1, hblk1, hm1, hb1⟩)
    | (go_at_call 8; refine (refNew_ok M S h1 h2 h3 _).mono ?_; rintro e w2 ⟨rfl, hR2, hb2⟩)
    | (go_at_call 9; refine (wakes_any _).mono ?_; rintro e w3 ⟨rfl, hb3⟩))
  have hBo : Both w w1.heap.size d bm w1.heap.size M S w3 0 0 (fun _ => none) (fun _ => (0, NI)) := by
    obtain ⟨o, ho⟩ := hblk1
    have b2 := hb1.trans (hb2.mono hb1.size)
    exact ⟨(hD1.below hb2).below hb3, ⟨o, (hb3.block d (hD1.below hb2).lt).trans ((hb2.block d hD1.lt).trans ho)⟩, ⟨_, _, _, [], [], [], hR2.below hb3, Nat.le_refl _, fun x => rfl⟩, b2.trans (hb3.mono b2.size), hm1, hb1.size, Nat.le_trans hb2.size hb3.size⟩
  have hRe : Rel M (fun _ => none) (fun _ => (0, NI)) := fun x => ⟨rfl, fun _ => rfl, by show (0 : Int) ≤ 0; omega, by show (0 : Int) < M; omega⟩
  clear hD1 hblk1 hm1 hb1 hR2 hb2 hb3
  generalize w1.heap.size = rd at hBo ⊢
  go_wp2
  go_loopw [12, 13, 14] (fun i _ _ wr => ∃ (j : Nat) (m : ByteArray → Option Tr) (F : ByteArray → Tr), i = .int .i64 j ∧ j ≤ 200 ∧ Rel M m F ∧ Both w rd d bm rd M S wr j (2 * j) m F) (fun i _ _ _ => 200 - natV i)
  case atStart => exact ⟨0, _, _, rfl, Nat.zero_le _, hRe, hBo⟩
  case round =>
    clear hRe hBo
    obtain ⟨j, m, F, rfl, hj, hRe, hBo⟩ := hrel
    by_cases hlt : j < n ∧ j < 200
    · have hz1 : (j : Int) < (n : Int) := by omega
      have hz2 : (j : Int) < 200 := by omega
      obtain ⟨b, off, rfl, hcell⟩ := (hR.below hBo.bel).flat (by omega)
      obtain ⟨D, U, T, q0, q1, q2⟩ := hcell j hlt.1
      clear hcell
      go_upto_region 11 with fail
      go_quiet ((go_at_call 10; refine Calls.quiet_of_same (text40 _ _)))
      have hBq : Both w rd d bm rd M S (wr.drewN nq) j (2 * j) m F := hBo.below (((Keep.refl (fun _ => False) wr).drewN nq).below (Nat.le_refl _) (fun _ h => h.elim))
      have q0' : (wr.drewN nq).cell? ⟨b, off + j * 3, none⟩ = some (.int .i64 D) := q0
      have hus := cut40_size U
      clear hBo q0 q1 q2
      generalize cut40 U = s at hus ⊢
      generalize wr.drewN nq = W at hBq q0' ⊢
      have hsl : s.size ≤ maxLen := by unfold maxLen; omega
      have hs48 : s.size ≤ 281474976710656 := by omega
      have hask := rel_ask hRe s T
      obtain ⟨r1, r2, r3, r4⟩ := hRe s
      by_cases hD1 : D = 1
      · have hd1 : (D == 1) = true := by simpa using hD1
        clear hD1
        by_cases h0 : ask m s T = 0
        · have FO := fail_ok d bm j M S m s hs48 (by omega) T h0 r3 (by omega) W hBq.door
          have RO := fun (w' : World) (hb : Both w rd d bm rd M S w' (j + 1) (2 * j) (failM m s T M S) F) => rfail_ok_b s T (by omega) (by rw [← hask]; exact h0) (by rw [← r1]; exact r3) (by rw [← r1]; omega) hb
          clear h0 hask r1 r2 r3 r4
          go_wp2_with (first
            | (go_at_call 11; refine FO.mono ?_; clear FO; rintro e w4 ⟨rfl, hD4, hk4⟩; have hB4 := hBq.turn hk4 hD4)
            | (go_at_call 12; refine (RO _ hB4).mono ?_; clear RO; rintro e w5 ⟨rfl, r, hsum, hB5⟩))
          go_roundw
          case rel => exact ⟨j + 1, _, _, by go_num, by omega, rel_fail hRe h1 s hsum, hB5⟩
          case measure => simp [natV]; omega
        · have FO := fail_bad d bm j M S m s hsl T h0 W hBq.door
          have RO := fun (w' : World) (hb : Both w rd d bm rd M S w' j (2 * j) m F) => rfail_bad_b s T (by omega) (by rw [← hask]; exact h0) hb
          rw [← hask] at RO
          clear h0 hask r1 r2 r3 r4
          generalize ask m s T = z at FO RO
          go_wp2_with (first
            | (go_at_call 11; refine FO.mono ?_; clear FO; rintro e w4 ⟨rfl, hb4⟩; have hB4 := hBq.below hb4)
            | (go_at_call 12; refine (RO _ hB4).mono ?_; clear RO; rintro e w5 ⟨rfl, hB5⟩))
          go_roundw
          case rel => exact ⟨j + 1, m, F, by go_num, by omega, hRe, hB5.grow (Nat.le_succ _) (by omega)⟩
          case measure => simp [natV]; omega
      · have hd1 : (D == 1) = false := by simpa using hD1
        clear hD1
        by_cases hD2 : D = 2
        · have hd2 : (D == 2) = true := by simpa using hD2
          clear hD2
          have PO := pass_any d bm j M S m s hsl (Or.inr hs48) (by omega) W hBq.door
          have RO := fun (w' : World) (hb : Both w rd d bm rd M S w' (j + 1) (2 * j) (passM m s) F) => rpass_b s (by omega) hb
          clear hask r1 r2 r3 r4
          go_wp2_with (first
            | (go_at_call 13; refine PO.mono ?_; clear PO; rintro e w4 ⟨rfl, hD4, hk4⟩; have hB4 := hBq.turn hk4 hD4)
            | (go_at_call 14; refine (RO _ hB4).mono ?_; clear RO; rintro e w5 ⟨rfl, hB5⟩))
          go_roundw
          case rel => exact ⟨j + 1, _, _, by go_num, by omega, rel_pass hRe h1 s, hB5.grow (Nat.le_refl _) (by omega)⟩
          case measure => simp [natV]; omega
        · have hd2 : (D == 2) = false := by simpa using hD2
          clear hD2
          have AO := ask_any d bm j M S m s hsl T W hBq.door
          have RO := fun (w' : World) (hb : Both w rd d bm rd M S w' j (2 * j) m F) => rask_b s T (by omega) hb
          rw [← hask] at RO
          clear hask r1 r2 r3 r4
          generalize ask m s T = z at AO RO
          go_wp2_with (first
            | (go_at_call 15; refine AO.mono ?_; clear AO; rintro e w4 ⟨rfl, hb4⟩; have hB4 := hBq.below hb4)
            | (go_at_call 16; refine (RO _ hB4).mono ?_; clear RO; rintro e w5 ⟨rfl, hB5⟩))
          go_roundw
          case rel => exact ⟨j + 1, m, F, by go_num, by omega, hRe, hB5.grow (Nat.le_succ _) (by omega)⟩
          case measure => simp [natV]; omega
    · by_cases hn : j < n
      · have hz1 : (j : Int) < (n : Int) := by omega
        have hz2 : ¬ (j : Int) < 200 := by omega
        go_wp2
        go_ret
        exact ⟨rfl, hBo.bel⟩
      · have hz1 : ¬ (j : Int) < (n : Int) := by omega
        go_wp2
        go_ret
        exact ⟨rfl, hBo.bel⟩

theorem door_law (M : Int) (S : Nat) (a : Option Addr) (n c : Nat) (w : World) (hR : TRd w a n c) (hM : -9223372036854775808 ≤ M ∧ M ≤ 9223372036854775807) :
    Calls Try.prog 3 #[.int .i64 M, .int .u64 S, .slice a n c] w fun e w' => e = .returned (.bool true) ∧ Below w.heap.size w w' := by
  by_cases h1 : M < 1
  · exact door_bad M S a n c w (Or.inl h1)
  · cases h2 : Fl.nan S with
    | true => exact door_bad M S a n c w (Or.inr (Or.inl h2))
    | false =>
      cases h3 : flt S 0 with
      | true => exact door_bad M S a n c w (Or.inr (Or.inr h3))
      | false => exact door_ok M S a n c w hR (by omega) hM.2 h2 h3

end Go.Proofs.Ytiidjdedeenijaa
