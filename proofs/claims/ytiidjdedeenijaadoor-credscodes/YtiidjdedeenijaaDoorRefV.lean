/- UTF-8: this proof's own word on it is the library's. -/
import Derived.Test.YtiidjdedeenijaaDoorUtf
import Derived.Test.YtiidjdedeenijaaDoorB6A
import Derived.Lib.ValidLaws
namespace Go.Proofs.YtiidjdedeenijaaDoor
open Go.RowKit

theorem usz_1234 (z : Int) : usz z = 1 ∨ usz z = 2 ∨ usz z = 3 ∨ usz z = 4 := by
  unfold usz; split
  · simp
  · split
    · simp
    · split <;> simp
theorem dropD (c : Int) (r : List Int) (j : Nat) : (c :: r).getD (j + 1) 0 = r.getD j 0 := by simp [List.getD]

theorem bad1 {ys : List Int} {z : Int} (hd : ys = z :: ys.drop 1) (ha : ¬ z < 128) (hk : usz z = 1) : vld ys = false := by
  rw [hd, vld_cons, if_neg ha, if_neg (by omega), if_neg (by omega), if_neg (by omega)]
theorem bad2 {ys : List Int} {z : Int} (hd : ys = z :: ys.drop 1) (ha : ¬ z < 128) (hk : usz z = 2) (h : ys.length < 2 ∨ ys.getD 1 0 < ulo z ∨ uhi z < ys.getD 1 0) : vld ys = false := by
  have e1 : ys.getD 1 0 = (ys.drop 1).getD 0 0 := by conv => lhs; rw [hd, dropD]
  have e2 : ys.length = (ys.drop 1).length + 1 := congrArg List.length hd
  rw [e1, e2] at h
  rw [hd, vld_cons, if_neg ha, if_pos hk]
  generalize ys.drop 1 = r at *
  by_cases hl : 1 ≤ r.length
  · rw [if_pos hl]
    have : oks z (r.getD 0 0) = false := by
      cases q : oks z (r.getD 0 0) with
      | false => rfl
      | true => simp only [oks, Bool.and_eq_true, decide_eq_true_eq] at q; omega
    rw [this, Bool.false_and]
  · rw [if_neg hl]
theorem ok2 {ys : List Int} {z : Int} (hd : ys = z :: ys.drop 1) (ha : ¬ z < 128) (hk : usz z = 2) (h0 : 2 ≤ ys.length) (h1 : ulo z ≤ ys.getD 1 0) (h2 : ys.getD 1 0 ≤ uhi z) : vld ys = vld (ys.drop 2) := by
  have e1 : ys.getD 1 0 = (ys.drop 1).getD 0 0 := by conv => lhs; rw [hd, dropD]
  have e2 : ys.length = (ys.drop 1).length + 1 := congrArg List.length hd
  have e3 : ys.drop 2 = (ys.drop 1).drop 1 := by rw [List.drop_drop]
  rw [e1] at h1 h2
  rw [e2] at h0
  rw [e3]
  conv => lhs; rw [hd, vld_cons, if_neg ha, if_pos hk]
  generalize ys.drop 1 = r at *
  rw [if_pos (by omega)]
  have : oks z (r.getD 0 0) = true := by
    simp only [oks, Bool.and_eq_true, decide_eq_true_eq]; omega
  rw [this, Bool.true_and]
theorem bad3 {ys : List Int} {z : Int} (hd : ys = z :: ys.drop 1) (ha : ¬ z < 128) (hk : usz z = 3) (h : ys.length < 3 ∨ ys.getD 1 0 < ulo z ∨ uhi z < ys.getD 1 0 ∨ ys.getD 2 0 < 128 ∨ 191 < ys.getD 2 0) : vld ys = false := by
  have e1 : ys.getD 1 0 = (ys.drop 1).getD 0 0 := by conv => lhs; rw [hd, dropD]
  have e4 : ys.getD 2 0 = (ys.drop 1).getD 1 0 := by conv => lhs; rw [hd, dropD]
  have e2 : ys.length = (ys.drop 1).length + 1 := congrArg List.length hd
  rw [e1, e2, e4] at h
  rw [hd, vld_cons, if_neg ha, if_neg (by omega), if_pos hk]
  generalize ys.drop 1 = r at *
  by_cases hl : 2 ≤ r.length
  · rw [if_pos hl]
    have : (oks z (r.getD 0 0) && okc (r.getD 1 0)) = false := by
      cases q : oks z (r.getD 0 0) && okc (r.getD 1 0) with
      | false => rfl
      | true => simp only [oks, okc, Bool.and_eq_true, decide_eq_true_eq] at q; omega
    rw [this, Bool.false_and]
  · rw [if_neg hl]
theorem ok3 {ys : List Int} {z : Int} (hd : ys = z :: ys.drop 1) (ha : ¬ z < 128) (hk : usz z = 3) (h0 : 3 ≤ ys.length) (h1 : ulo z ≤ ys.getD 1 0) (h2 : ys.getD 1 0 ≤ uhi z) (h3 : 128 ≤ ys.getD 2 0) (h4 : ys.getD 2 0 ≤ 191) : vld ys = vld (ys.drop 3) := by
  have e1 : ys.getD 1 0 = (ys.drop 1).getD 0 0 := by conv => lhs; rw [hd, dropD]
  have e4 : ys.getD 2 0 = (ys.drop 1).getD 1 0 := by conv => lhs; rw [hd, dropD]
  have e2 : ys.length = (ys.drop 1).length + 1 := congrArg List.length hd
  have e3 : ys.drop 3 = (ys.drop 1).drop 2 := by rw [List.drop_drop]
  rw [e1] at h1 h2
  rw [e4] at h3 h4
  rw [e2] at h0
  rw [e3]
  conv => lhs; rw [hd, vld_cons, if_neg ha, if_neg (by omega), if_pos hk]
  generalize ys.drop 1 = r at *
  rw [if_pos (by omega)]
  have : (oks z (r.getD 0 0) && okc (r.getD 1 0)) = true := by
    simp only [oks, okc, Bool.and_eq_true, decide_eq_true_eq]; omega
  rw [this, Bool.true_and]
theorem bad4 {ys : List Int} {z : Int} (hd : ys = z :: ys.drop 1) (ha : ¬ z < 128) (hk : usz z = 4) (h : ys.length < 4 ∨ ys.getD 1 0 < ulo z ∨ uhi z < ys.getD 1 0 ∨ ys.getD 2 0 < 128 ∨ 191 < ys.getD 2 0 ∨ ys.getD 3 0 < 128 ∨ 191 < ys.getD 3 0) : vld ys = false := by
  have e1 : ys.getD 1 0 = (ys.drop 1).getD 0 0 := by conv => lhs; rw [hd, dropD]
  have e4 : ys.getD 2 0 = (ys.drop 1).getD 1 0 := by conv => lhs; rw [hd, dropD]
  have e5 : ys.getD 3 0 = (ys.drop 1).getD 2 0 := by conv => lhs; rw [hd, dropD]
  have e2 : ys.length = (ys.drop 1).length + 1 := congrArg List.length hd
  rw [e1, e2, e4, e5] at h
  rw [hd, vld_cons, if_neg ha, if_neg (by omega), if_neg (by omega), if_pos hk]
  generalize ys.drop 1 = r at *
  by_cases hl : 3 ≤ r.length
  · rw [if_pos hl]
    have : (oks z (r.getD 0 0) && okc (r.getD 1 0) && okc (r.getD 2 0)) = false := by
      cases q : oks z (r.getD 0 0) && okc (r.getD 1 0) && okc (r.getD 2 0) with
      | false => rfl
      | true => simp only [oks, okc, Bool.and_eq_true, decide_eq_true_eq] at q; omega
    rw [this, Bool.false_and]
  · rw [if_neg hl]
theorem ok4 {ys : List Int} {z : Int} (hd : ys = z :: ys.drop 1) (ha : ¬ z < 128) (hk : usz z = 4) (h0 : 4 ≤ ys.length) (h1 : ulo z ≤ ys.getD 1 0) (h2 : ys.getD 1 0 ≤ uhi z) (h3 : 128 ≤ ys.getD 2 0) (h4 : ys.getD 2 0 ≤ 191) (h5 : 128 ≤ ys.getD 3 0) (h6 : ys.getD 3 0 ≤ 191) : vld ys = vld (ys.drop 4) := by
  have e1 : ys.getD 1 0 = (ys.drop 1).getD 0 0 := by conv => lhs; rw [hd, dropD]
  have e4 : ys.getD 2 0 = (ys.drop 1).getD 1 0 := by conv => lhs; rw [hd, dropD]
  have e5 : ys.getD 3 0 = (ys.drop 1).getD 2 0 := by conv => lhs; rw [hd, dropD]
  have e2 : ys.length = (ys.drop 1).length + 1 := congrArg List.length hd
  have e3 : ys.drop 4 = (ys.drop 1).drop 3 := by rw [List.drop_drop]
  rw [e1] at h1 h2
  rw [e4] at h3 h4
  rw [e5] at h5 h6
  rw [e2] at h0
  rw [e3]
  conv => lhs; rw [hd, vld_cons, if_neg ha, if_neg (by omega), if_neg (by omega), if_pos hk]
  generalize ys.drop 1 = r at *
  rw [if_pos (by omega)]
  have : (oks z (r.getD 0 0) && okc (r.getD 1 0) && okc (r.getD 2 0)) = true := by
    simp only [oks, okc, Bool.and_eq_true, decide_eq_true_eq]; omega
  rw [this, Bool.true_and]

theorem tab_eq : ∀ c : Nat, c < 256 → 128 ≤ c → Lib.firstT c % 8 = usz (c : Int) ∧ (usz (c : Int) ≠ 1 → ((Lib.accLo (Lib.firstT c / 16) : Nat) : Int) = ulo (c : Int) ∧ ((Lib.accHi (Lib.firstT c / 16) : Nat) : Int) = uhi (c : Int)) := by decide +kernel

theorem getN (l : List UInt8) (j : Nat) : (l.map fun b => (b.toNat : Int)).getD j 0 = ((l.getD j 0).toNat : Int) := by
  rw [List.getD, List.getElem?_map, List.getD]
  cases l[j]? <;> simp

theorem vld_valid : ∀ (n : Nat) (l : List UInt8), l.length ≤ n → vld (l.map fun b => (b.toNat : Int)) = Lib.validD l
  | _, [], _ => by rw [List.map_nil, vld_nil, Lib.validD_nil]
  | 0, b :: t, h => by simp at h
  | n + 1, b :: t, h => by
    have hb := b.toNat_lt
    by_cases ha : b.toNat < 128
    · rw [List.map_cons, vld_ascii (by omega), Lib.validD_cons b t ha]
      exact vld_valid n t (by simp at h; omega)
    · rw [Lib.validD_lead (b :: t) (by simp) (by simp; omega)]
      have e0 : (b :: t).getD 0 0 = b := rfl
      rw [e0]
      obtain ⟨hsz, hlh⟩ := tab_eq b.toNat hb (by omega)
      rw [hsz]
      have hd : ((b :: t).map fun b => (b.toNat : Int)) = (b.toNat : Int) :: ((b :: t).map fun b => (b.toNat : Int)).drop 1 := rfl
      have hlen : ((b :: t).map fun b => (b.toNat : Int)).length = (b :: t).length := by simp
      have hdr : ∀ k, ((b :: t).map fun b => (b.toNat : Int)).drop k = ((b :: t).drop k).map fun b => (b.toNat : Int) := fun k => by rw [List.map_drop]
      have ih : ∀ k, 1 ≤ k → vld (((b :: t).map fun b => (b.toNat : Int)).drop k) = Lib.validD ((b :: t).drop k) := fun k hk => by
        rw [hdr]; exact vld_valid n _ (by rw [List.length_drop]; simp at h ⊢; omega)
      have g1 := getN (b :: t) 1
      have g2 := getN (b :: t) 2
      have g3 := getN (b :: t) 3
      rcases usz_1234 (b.toNat : Int) with hu | hu | hu | hu
      · rw [bad1 hd (by omega) hu, hu]; rfl
      · obtain ⟨h1, h2⟩ := hlh (by omega)
        rw [hu]
        simp only [Lib.checkN]
        by_cases hc : (b :: t).length < 2 ∨ ((b :: t).getD 1 0).toNat < Lib.accLo (Lib.firstT b.toNat / 16) ∨ Lib.accHi (Lib.firstT b.toNat / 16) < ((b :: t).getD 1 0).toNat
        · rw [if_pos trivial, if_pos hc]
          exact bad2 hd (by omega) hu (by rw [hlen, g1]; omega)
        · rw [if_pos trivial, if_neg hc]
          rw [ok2 hd (by omega) hu (by rw [hlen]; omega) (by rw [g1]; omega) (by rw [g1]; omega)]
          exact ih 2 (by omega)
      · obtain ⟨h1, h2⟩ := hlh (by omega)
        rw [hu]
        simp only [Lib.checkN]
        rw [if_neg (by omega), if_pos trivial]
        by_cases hc : (b :: t).length < 3 ∨ ((b :: t).getD 1 0).toNat < Lib.accLo (Lib.firstT b.toNat / 16) ∨ Lib.accHi (Lib.firstT b.toNat / 16) < ((b :: t).getD 1 0).toNat ∨ ((b :: t).getD 2 0).toNat < 128 ∨ 191 < ((b :: t).getD 2 0).toNat
        · rw [if_pos hc]
          exact bad3 hd (by omega) hu (by rw [hlen, g1, g2]; omega)
        · rw [if_neg hc]
          rw [ok3 hd (by omega) hu (by rw [hlen]; omega) (by rw [g1]; omega) (by rw [g1]; omega) (by rw [g2]; omega) (by rw [g2]; omega)]
          exact ih 3 (by omega)
      · obtain ⟨h1, h2⟩ := hlh (by omega)
        rw [hu]
        simp only [Lib.checkN]
        rw [if_neg (by omega), if_neg (by omega), if_pos trivial]
        by_cases hc : (b :: t).length < 4 ∨ ((b :: t).getD 1 0).toNat < Lib.accLo (Lib.firstT b.toNat / 16) ∨ Lib.accHi (Lib.firstT b.toNat / 16) < ((b :: t).getD 1 0).toNat ∨ ((b :: t).getD 2 0).toNat < 128 ∨ 191 < ((b :: t).getD 2 0).toNat ∨ ((b :: t).getD 3 0).toNat < 128 ∨ 191 < ((b :: t).getD 3 0).toNat
        · rw [if_pos hc]
          exact bad4 hd (by omega) hu (by rw [hlen, g1, g2, g3]; omega)
        · rw [if_neg hc]
          rw [ok4 hd (by omega) hu (by rw [hlen]; omega) (by rw [g1]; omega) (by rw [g1]; omega) (by rw [g2]; omega) (by rw [g2]; omega) (by rw [g3]; omega) (by rw [g3]; omega)]
          exact ih 4 (by omega)
theorem vld_nums (s : ByteArray) : vld (nums s) = Lib.validD s.data.toList := vld_valid _ _ (Nat.le_refl _)

end Go.Proofs.YtiidjdedeenijaaDoor

/- The document's Valid: is a text UTF-8, byte by byte? -/
namespace Go.Proofs.YtiidjdedeenijaaDoor
open Go.RowKit

theorem ret_bool {a b : Bool} (h : a = b) : Ending.returned (.bool a) = .returned (.bool b) := by rw [h]
theorem drop_consX {xs : List Int} {k : Nat} (h : k < xs.length) : xs.drop k = xs.getD k 0 :: xs.drop (k + 1) := by
  rw [List.drop_eq_getElem_cons h]
  simp [List.getD, h]
theorem idx (s : ByteArray) (i : Int) (j : Nat) (w : World) (e : i = (j : Int)) (h : j < s.size) : (Instr.index 9 (.string s) (.int .i64 i)).run Tryd.prog w = .ok (.int .u8 ((nums s).getD j 0)) w := by
  subst e
  rw [run_index_string w 9 s .i64 (j : Int) Tryd.underlying9, dif_pos ⟨by omega, by omega⟩]
  have h1 : j < s.data.size := h
  have e1 : (nums s).getD j 0 = ((s.data[j]).toNat : Int) := by
    simp [nums, List.getD, Array.getElem?_eq_getElem h1]
  rw [e1]
  rfl

theorem ok1 {ys : List Int} {z : Int} (hd : ys = z :: ys.drop 1) (ha : z < 128) : vld ys = vld (ys.drop 1) := by conv => lhs; rw [hd, vld_ascii ha]
theorem dropAt (l : List Int) (k j : Nat) : (l.drop k).getD j 0 = l.getD (k + j) 0 := by simp [List.getD]

set_option maxHeartbeats 40000000 in
set_option maxRecDepth 100000 in
theorem refValid_any (s : ByteArray) (w : World) (hs : s.size ≤ 1000000) :
    Calls Tryd.prog 25 #[.string s] w fun e w' => e = .returned (.bool (vld (nums s))) ∧ w' = w := by
  have hl := nums_len s
  have hbd := nums_bd s
  go_enter Tryd.func25, Tryd.ntmps25
  go_wp2
  go_loop [3] (fun i => ∃ k : Nat, k ≤ s.size ∧ i = .int .i64 k ∧ vld ((nums s).drop k) = vld (nums s)) (fun i => s.size - (intOf i).toNat)
  case atStart => exact ⟨0, by omega, rfl, rfl⟩
  case round =>
    obtain ⟨k, hk, rfl, hv⟩ := hrel
    by_cases hlt : k < s.size
    · have hq0 := idx s (k : Int) k w rfl hlt
      have hb := hbd.get k
      have hd := drop_consX (xs := nums s) (k := k) (by omega)
      have hlen : ((nums s).drop k).length = s.size - k := by rw [List.length_drop, hl]
      have hD1 : ((nums s).drop k).drop 1 = (nums s).drop (k + 1) := by rw [List.drop_drop]
      have hD2 : ((nums s).drop k).drop 2 = (nums s).drop (k + 2) := by rw [List.drop_drop]
      have hD3 : ((nums s).drop k).drop 3 = (nums s).drop (k + 3) := by rw [List.drop_drop]
      have hD4 : ((nums s).drop k).drop 4 = (nums s).drop (k + 4) := by rw [List.drop_drop]
      rw [← hD1] at hd
      have hA1 := dropAt (nums s) k 1
      have hA2 := dropAt (nums s) k 2
      have hA3 := dropAt (nums s) k 3
      obtain ⟨z, hz⟩ : ∃ z, z = (nums s).getD k 0 := ⟨_, rfl⟩
      rw [← hz] at hq0 hb hd
      clear hz
      obtain ⟨hb0, hb1⟩ := hb
      have HV : Hid (vld ((nums s).drop k) = vld (nums s)) := hv
      have HD : Hid ((nums s).drop k = z :: ((nums s).drop k).drop 1) := hd
      have HL : Hid (((nums s).drop k).length = s.size - k) := hlen
      have H1 : Hid (((nums s).drop k).drop 1 = (nums s).drop (k + 1)) := hD1
      have H2 : Hid (((nums s).drop k).drop 2 = (nums s).drop (k + 2)) := hD2
      have H3 : Hid (((nums s).drop k).drop 3 = (nums s).drop (k + 3)) := hD3
      have H4 : Hid (((nums s).drop k).drop 4 = (nums s).drop (k + 4)) := hD4
      have A1 : Hid (((nums s).drop k).getD 1 0 = (nums s).getD (k + 1) 0) := hA1
      have A2 : Hid (((nums s).drop k).getD 2 0 = (nums s).getD (k + 2) 0) := hA2
      have A3 : Hid (((nums s).drop k).getD 3 0 = (nums s).getD (k + 3) 0) := hA3
      clear hv hd hlen hD1 hD2 hD3 hD4 hA1 hA2 hA3
      by_cases r1 : z < 128
      · skip
        as_aux_lemma =>
          go_wp2
          refine wp_loop_rounds 1 ?_
          rw [rounds_succ]
          go_wp2
          go_round
          case rel => exact ⟨k + 1, by omega, by go_num, by rw [← HV.out, ← H1.out]; exact (ok1 HD.out r1).symm⟩
          case measure => simp [intOf]; omega
      · by_cases r2 : z < 194
        · have hu : usz z = 1 := by unfold usz; rw [if_neg (by omega), if_neg (by omega), if_neg (by omega)]
          have ca : ¬ z < 128 := by omega
          have cb : ¬ 194 ≤ z := by omega
          have cc : z ≤ 223 := by omega
          have cd : ¬ 224 ≤ z := by omega
          have ce : z ≤ 239 := by omega
          have cf : ¬ 240 ≤ z := by omega
          have cg : z ≤ 244 := by omega
          go_wp2
          go_ret
          exact ⟨ret_bool (by rw [← HV.out]; exact (bad1 HD.out (by omega) hu).symm), rfl⟩
        · by_cases r3 : z ≤ 223
          · have hu : usz z = 2 := by unfold usz; rw [if_pos (by omega)]
            have hlo : ulo z = 128 := by unfold ulo; rw [if_neg (by omega), if_neg (by omega)]
            have hhi : uhi z = 191 := by unfold uhi; rw [if_neg (by omega), if_neg (by omega)]
            have ca : ¬ z < 128 := by omega
            have cb : 194 ≤ z := by omega
            have cc : z ≤ 223 := by omega
            have cd : ¬ 224 ≤ z := by omega
            have ce : z ≤ 239 := by omega
            have cf : ¬ 240 ≤ z := by omega
            have cg : z ≤ 244 := by omega
            as_aux_lemma =>
              go_wp2
              refine wp_loop_rounds 2 ?_
              by_cases n1 : k + 1 < s.size
              · have hq1 := idx s ((k : Int) + 1) (k + 1) w (by omega) n1
                have m1 : ¬ ((s.size : Int) ≤ (k : Int) + 1) := by omega
                obtain ⟨z1, hz1⟩ : ∃ z, z = (nums s).getD (k + 1) 0 := ⟨_, rfl⟩
                rw [← hz1] at hq1
                have HZ1 : Hid (z1 = (nums s).getD (k + 1) 0) := hz1
                have A1' := A1.out
                rw [← hz1] at A1'
                replace A1 : Hid (((nums s).drop k).getD 1 0 = z1) := A1'
                clear A1' hz1
                by_cases o1 : z1 < 128
                · rw [rounds_succ]
                  go_wp2
                  go_ret
                  exact ⟨ret_bool (by rw [← HV.out]; exact (bad2 HD.out (by omega) hu (by rw [HL.out, A1.out, hlo, hhi]; omega)).symm), rfl⟩
                · by_cases p1 : 191 < z1
                  · rw [rounds_succ]
                    go_wp2
                    go_ret
                    exact ⟨ret_bool (by rw [← HV.out]; exact (bad2 HD.out (by omega) hu (by rw [HL.out, A1.out, hlo, hhi]; omega)).symm), rfl⟩
                  · rw [rounds_succ]
                    go_wp2
                    rw [rounds_succ]
                    go_wp2
                    go_round
                    case rel => exact ⟨k + 2, by omega, by go_num, by rw [← HV.out, ← H2.out]; exact (ok2 HD.out (by omega) hu (by rw [HL.out]; omega) (by rw [A1.out]; rw [hlo]; omega) (by rw [A1.out]; rw [hhi]; omega)).symm⟩
                    case measure => simp [intOf]; omega
              · have m1 : (s.size : Int) ≤ (k : Int) + 1 := by omega
                rw [rounds_succ]
                go_wp2
                go_ret
                exact ⟨ret_bool (by rw [← HV.out]; exact (bad2 HD.out (by omega) hu (by rw [HL.out, A1.out, hlo, hhi]; omega)).symm), rfl⟩
          · by_cases r4 : z ≤ 239
            · have hu : usz z = 3 := by unfold usz; rw [if_neg (by omega), if_pos (by omega)]
              by_cases g1 : z = 224
              · subst g1
                have hlo : ulo 224 = 160 := by decide
                have hhi : uhi 224 = 191 := by decide
                as_aux_lemma =>
                  go_wp2
                  refine wp_loop_rounds 3 ?_
                  by_cases n1 : k + 1 < s.size
                  · have hq1 := idx s ((k : Int) + 1) (k + 1) w (by omega) n1
                    have m1 : ¬ ((s.size : Int) ≤ (k : Int) + 1) := by omega
                    obtain ⟨z1, hz1⟩ : ∃ z, z = (nums s).getD (k + 1) 0 := ⟨_, rfl⟩
                    rw [← hz1] at hq1
                    have HZ1 : Hid (z1 = (nums s).getD (k + 1) 0) := hz1
                    have A1' := A1.out
                    rw [← hz1] at A1'
                    replace A1 : Hid (((nums s).drop k).getD 1 0 = z1) := A1'
                    clear A1' hz1
                    by_cases o1 : z1 < 160
                    · rw [rounds_succ]
                      go_wp2
                      go_ret
                      exact ⟨ret_bool (by rw [← HV.out]; exact (bad3 HD.out (by omega) hu (by rw [HL.out, A1.out, hlo, hhi, A2.out]; omega)).symm), rfl⟩
                    · by_cases p1 : 191 < z1
                      · rw [rounds_succ]
                        go_wp2
                        go_ret
                        exact ⟨ret_bool (by rw [← HV.out]; exact (bad3 HD.out (by omega) hu (by rw [HL.out, A1.out, hlo, hhi, A2.out]; omega)).symm), rfl⟩
                      · rw [rounds_succ]
                        go_wp2
                        by_cases n2 : k + 2 < s.size
                        · have hq2 := idx s ((k : Int) + 2) (k + 2) w (by omega) n2
                          have m2 : ¬ ((s.size : Int) ≤ (k : Int) + 2) := by omega
                          obtain ⟨z2, hz2⟩ : ∃ z, z = (nums s).getD (k + 2) 0 := ⟨_, rfl⟩
                          rw [← hz2] at hq2
                          have HZ2 : Hid (z2 = (nums s).getD (k + 2) 0) := hz2
                          have A2' := A2.out
                          rw [← hz2] at A2'
                          replace A2 : Hid (((nums s).drop k).getD 2 0 = z2) := A2'
                          clear A2' hz2
                          by_cases o2 : z2 < 128
                          · rw [rounds_succ]
                            go_wp2
                            go_ret
                            exact ⟨ret_bool (by rw [← HV.out]; exact (bad3 HD.out (by omega) hu (by rw [HL.out, A1.out, hlo, hhi, A2.out]; omega)).symm), rfl⟩
                          · by_cases p2 : 191 < z2
                            · rw [rounds_succ]
                              go_wp2
                              go_ret
                              exact ⟨ret_bool (by rw [← HV.out]; exact (bad3 HD.out (by omega) hu (by rw [HL.out, A1.out, hlo, hhi, A2.out]; omega)).symm), rfl⟩
                            · rw [rounds_succ]
                              go_wp2
                              rw [rounds_succ]
                              go_wp2
                              go_round
                              case rel => exact ⟨k + 3, by omega, by go_num, by rw [← HV.out, ← H3.out]; exact (ok3 HD.out (by omega) hu (by rw [HL.out]; omega) (by rw [A1.out]; rw [hlo]; omega) (by rw [A1.out]; rw [hhi]; omega) (by rw [A2.out]; omega) (by rw [A2.out]; omega)).symm⟩
                              case measure => simp [intOf]; omega
                        · have m2 : (s.size : Int) ≤ (k : Int) + 2 := by omega
                          rw [rounds_succ]
                          go_wp2
                          go_ret
                          exact ⟨ret_bool (by rw [← HV.out]; exact (bad3 HD.out (by omega) hu (by rw [HL.out, A1.out, hlo, hhi, A2.out]; omega)).symm), rfl⟩
                  · have m1 : (s.size : Int) ≤ (k : Int) + 1 := by omega
                    rw [rounds_succ]
                    go_wp2
                    go_ret
                    exact ⟨ret_bool (by rw [← HV.out]; exact (bad3 HD.out (by omega) hu (by rw [HL.out, A1.out, hlo, hhi, A2.out]; omega)).symm), rfl⟩
              · by_cases g2 : z = 237
                · subst g2
                  have hlo : ulo 237 = 128 := by decide
                  have hhi : uhi 237 = 159 := by decide
                  as_aux_lemma =>
                    go_wp2
                    refine wp_loop_rounds 3 ?_
                    by_cases n1 : k + 1 < s.size
                    · have hq1 := idx s ((k : Int) + 1) (k + 1) w (by omega) n1
                      have m1 : ¬ ((s.size : Int) ≤ (k : Int) + 1) := by omega
                      obtain ⟨z1, hz1⟩ : ∃ z, z = (nums s).getD (k + 1) 0 := ⟨_, rfl⟩
                      rw [← hz1] at hq1
                      have HZ1 : Hid (z1 = (nums s).getD (k + 1) 0) := hz1
                      have A1' := A1.out
                      rw [← hz1] at A1'
                      replace A1 : Hid (((nums s).drop k).getD 1 0 = z1) := A1'
                      clear A1' hz1
                      by_cases o1 : z1 < 128
                      · rw [rounds_succ]
                        go_wp2
                        go_ret
                        exact ⟨ret_bool (by rw [← HV.out]; exact (bad3 HD.out (by omega) hu (by rw [HL.out, A1.out, hlo, hhi, A2.out]; omega)).symm), rfl⟩
                      · by_cases p1 : 159 < z1
                        · rw [rounds_succ]
                          go_wp2
                          go_ret
                          exact ⟨ret_bool (by rw [← HV.out]; exact (bad3 HD.out (by omega) hu (by rw [HL.out, A1.out, hlo, hhi, A2.out]; omega)).symm), rfl⟩
                        · rw [rounds_succ]
                          go_wp2
                          by_cases n2 : k + 2 < s.size
                          · have hq2 := idx s ((k : Int) + 2) (k + 2) w (by omega) n2
                            have m2 : ¬ ((s.size : Int) ≤ (k : Int) + 2) := by omega
                            obtain ⟨z2, hz2⟩ : ∃ z, z = (nums s).getD (k + 2) 0 := ⟨_, rfl⟩
                            rw [← hz2] at hq2
                            have HZ2 : Hid (z2 = (nums s).getD (k + 2) 0) := hz2
                            have A2' := A2.out
                            rw [← hz2] at A2'
                            replace A2 : Hid (((nums s).drop k).getD 2 0 = z2) := A2'
                            clear A2' hz2
                            by_cases o2 : z2 < 128
                            · rw [rounds_succ]
                              go_wp2
                              go_ret
                              exact ⟨ret_bool (by rw [← HV.out]; exact (bad3 HD.out (by omega) hu (by rw [HL.out, A1.out, hlo, hhi, A2.out]; omega)).symm), rfl⟩
                            · by_cases p2 : 191 < z2
                              · rw [rounds_succ]
                                go_wp2
                                go_ret
                                exact ⟨ret_bool (by rw [← HV.out]; exact (bad3 HD.out (by omega) hu (by rw [HL.out, A1.out, hlo, hhi, A2.out]; omega)).symm), rfl⟩
                              · rw [rounds_succ]
                                go_wp2
                                rw [rounds_succ]
                                go_wp2
                                go_round
                                case rel => exact ⟨k + 3, by omega, by go_num, by rw [← HV.out, ← H3.out]; exact (ok3 HD.out (by omega) hu (by rw [HL.out]; omega) (by rw [A1.out]; rw [hlo]; omega) (by rw [A1.out]; rw [hhi]; omega) (by rw [A2.out]; omega) (by rw [A2.out]; omega)).symm⟩
                                case measure => simp [intOf]; omega
                          · have m2 : (s.size : Int) ≤ (k : Int) + 2 := by omega
                            rw [rounds_succ]
                            go_wp2
                            go_ret
                            exact ⟨ret_bool (by rw [← HV.out]; exact (bad3 HD.out (by omega) hu (by rw [HL.out, A1.out, hlo, hhi, A2.out]; omega)).symm), rfl⟩
                    · have m1 : (s.size : Int) ≤ (k : Int) + 1 := by omega
                      rw [rounds_succ]
                      go_wp2
                      go_ret
                      exact ⟨ret_bool (by rw [← HV.out]; exact (bad3 HD.out (by omega) hu (by rw [HL.out, A1.out, hlo, hhi, A2.out]; omega)).symm), rfl⟩
                · have hlo : ulo z = 128 := by unfold ulo; rw [if_neg (by omega), if_neg (by omega)]
                  have hhi : uhi z = 191 := by unfold uhi; rw [if_neg (by omega), if_neg (by omega)]
                  have ca : ¬ z < 128 := by omega
                  have cb : 194 ≤ z := by omega
                  have cc : ¬ z ≤ 223 := by omega
                  have cd : 224 ≤ z := by omega
                  have ce : z ≤ 239 := by omega
                  have cf : ¬ 240 ≤ z := by omega
                  have cg : z ≤ 244 := by omega
                  have g1' : (z == 224) = false := by simpa using g1
                  have g2' : (z == 237) = false := by simpa using g2
                  as_aux_lemma =>
                    go_wp2
                    refine wp_loop_rounds 3 ?_
                    by_cases n1 : k + 1 < s.size
                    · have hq1 := idx s ((k : Int) + 1) (k + 1) w (by omega) n1
                      have m1 : ¬ ((s.size : Int) ≤ (k : Int) + 1) := by omega
                      obtain ⟨z1, hz1⟩ : ∃ z, z = (nums s).getD (k + 1) 0 := ⟨_, rfl⟩
                      rw [← hz1] at hq1
                      have HZ1 : Hid (z1 = (nums s).getD (k + 1) 0) := hz1
                      have A1' := A1.out
                      rw [← hz1] at A1'
                      replace A1 : Hid (((nums s).drop k).getD 1 0 = z1) := A1'
                      clear A1' hz1
                      by_cases o1 : z1 < 128
                      · rw [rounds_succ]
                        go_wp2
                        go_ret
                        exact ⟨ret_bool (by rw [← HV.out]; exact (bad3 HD.out (by omega) hu (by rw [HL.out, A1.out, hlo, hhi, A2.out]; omega)).symm), rfl⟩
                      · by_cases p1 : 191 < z1
                        · rw [rounds_succ]
                          go_wp2
                          go_ret
                          exact ⟨ret_bool (by rw [← HV.out]; exact (bad3 HD.out (by omega) hu (by rw [HL.out, A1.out, hlo, hhi, A2.out]; omega)).symm), rfl⟩
                        · rw [rounds_succ]
                          go_wp2
                          by_cases n2 : k + 2 < s.size
                          · have hq2 := idx s ((k : Int) + 2) (k + 2) w (by omega) n2
                            have m2 : ¬ ((s.size : Int) ≤ (k : Int) + 2) := by omega
                            obtain ⟨z2, hz2⟩ : ∃ z, z = (nums s).getD (k + 2) 0 := ⟨_, rfl⟩
                            rw [← hz2] at hq2
                            have HZ2 : Hid (z2 = (nums s).getD (k + 2) 0) := hz2
                            have A2' := A2.out
                            rw [← hz2] at A2'
                            replace A2 : Hid (((nums s).drop k).getD 2 0 = z2) := A2'
                            clear A2' hz2
                            by_cases o2 : z2 < 128
                            · rw [rounds_succ]
                              go_wp2
                              go_ret
                              exact ⟨ret_bool (by rw [← HV.out]; exact (bad3 HD.out (by omega) hu (by rw [HL.out, A1.out, hlo, hhi, A2.out]; omega)).symm), rfl⟩
                            · by_cases p2 : 191 < z2
                              · rw [rounds_succ]
                                go_wp2
                                go_ret
                                exact ⟨ret_bool (by rw [← HV.out]; exact (bad3 HD.out (by omega) hu (by rw [HL.out, A1.out, hlo, hhi, A2.out]; omega)).symm), rfl⟩
                              · rw [rounds_succ]
                                go_wp2
                                rw [rounds_succ]
                                go_wp2
                                go_round
                                case rel => exact ⟨k + 3, by omega, by go_num, by rw [← HV.out, ← H3.out]; exact (ok3 HD.out (by omega) hu (by rw [HL.out]; omega) (by rw [A1.out]; rw [hlo]; omega) (by rw [A1.out]; rw [hhi]; omega) (by rw [A2.out]; omega) (by rw [A2.out]; omega)).symm⟩
                                case measure => simp [intOf]; omega
                          · have m2 : (s.size : Int) ≤ (k : Int) + 2 := by omega
                            rw [rounds_succ]
                            go_wp2
                            go_ret
                            exact ⟨ret_bool (by rw [← HV.out]; exact (bad3 HD.out (by omega) hu (by rw [HL.out, A1.out, hlo, hhi, A2.out]; omega)).symm), rfl⟩
                    · have m1 : (s.size : Int) ≤ (k : Int) + 1 := by omega
                      rw [rounds_succ]
                      go_wp2
                      go_ret
                      exact ⟨ret_bool (by rw [← HV.out]; exact (bad3 HD.out (by omega) hu (by rw [HL.out, A1.out, hlo, hhi, A2.out]; omega)).symm), rfl⟩
            · by_cases r5 : z ≤ 244
              · have hu : usz z = 4 := by unfold usz; rw [if_neg (by omega), if_neg (by omega), if_pos (by omega)]
                by_cases g1 : z = 240
                · subst g1
                  have hlo : ulo 240 = 144 := by decide
                  have hhi : uhi 240 = 191 := by decide
                  as_aux_lemma =>
                    go_wp2
                    refine wp_loop_rounds 4 ?_
                    by_cases n1 : k + 1 < s.size
                    · have hq1 := idx s ((k : Int) + 1) (k + 1) w (by omega) n1
                      have m1 : ¬ ((s.size : Int) ≤ (k : Int) + 1) := by omega
                      obtain ⟨z1, hz1⟩ : ∃ z, z = (nums s).getD (k + 1) 0 := ⟨_, rfl⟩
                      rw [← hz1] at hq1
                      have HZ1 : Hid (z1 = (nums s).getD (k + 1) 0) := hz1
                      have A1' := A1.out
                      rw [← hz1] at A1'
                      replace A1 : Hid (((nums s).drop k).getD 1 0 = z1) := A1'
                      clear A1' hz1
                      by_cases o1 : z1 < 144
                      · rw [rounds_succ]
                        go_wp2
                        go_ret
                        exact ⟨ret_bool (by rw [← HV.out]; exact (bad4 HD.out (by omega) hu (by rw [HL.out, A1.out, hlo, hhi, A2.out, A3.out]; omega)).symm), rfl⟩
                      · by_cases p1 : 191 < z1
                        · rw [rounds_succ]
                          go_wp2
                          go_ret
                          exact ⟨ret_bool (by rw [← HV.out]; exact (bad4 HD.out (by omega) hu (by rw [HL.out, A1.out, hlo, hhi, A2.out, A3.out]; omega)).symm), rfl⟩
                        · rw [rounds_succ]
                          go_wp2
                          by_cases n2 : k + 2 < s.size
                          · have hq2 := idx s ((k : Int) + 2) (k + 2) w (by omega) n2
                            have m2 : ¬ ((s.size : Int) ≤ (k : Int) + 2) := by omega
                            obtain ⟨z2, hz2⟩ : ∃ z, z = (nums s).getD (k + 2) 0 := ⟨_, rfl⟩
                            rw [← hz2] at hq2
                            have HZ2 : Hid (z2 = (nums s).getD (k + 2) 0) := hz2
                            have A2' := A2.out
                            rw [← hz2] at A2'
                            replace A2 : Hid (((nums s).drop k).getD 2 0 = z2) := A2'
                            clear A2' hz2
                            by_cases o2 : z2 < 128
                            · rw [rounds_succ]
                              go_wp2
                              go_ret
                              exact ⟨ret_bool (by rw [← HV.out]; exact (bad4 HD.out (by omega) hu (by rw [HL.out, A1.out, hlo, hhi, A2.out, A3.out]; omega)).symm), rfl⟩
                            · by_cases p2 : 191 < z2
                              · rw [rounds_succ]
                                go_wp2
                                go_ret
                                exact ⟨ret_bool (by rw [← HV.out]; exact (bad4 HD.out (by omega) hu (by rw [HL.out, A1.out, hlo, hhi, A2.out, A3.out]; omega)).symm), rfl⟩
                              · rw [rounds_succ]
                                go_wp2
                                by_cases n3 : k + 3 < s.size
                                · have hq3 := idx s ((k : Int) + 3) (k + 3) w (by omega) n3
                                  have m3 : ¬ ((s.size : Int) ≤ (k : Int) + 3) := by omega
                                  obtain ⟨z3, hz3⟩ : ∃ z, z = (nums s).getD (k + 3) 0 := ⟨_, rfl⟩
                                  rw [← hz3] at hq3
                                  have HZ3 : Hid (z3 = (nums s).getD (k + 3) 0) := hz3
                                  have A3' := A3.out
                                  rw [← hz3] at A3'
                                  replace A3 : Hid (((nums s).drop k).getD 3 0 = z3) := A3'
                                  clear A3' hz3
                                  by_cases o3 : z3 < 128
                                  · rw [rounds_succ]
                                    go_wp2
                                    go_ret
                                    exact ⟨ret_bool (by rw [← HV.out]; exact (bad4 HD.out (by omega) hu (by rw [HL.out, A1.out, hlo, hhi, A2.out, A3.out]; omega)).symm), rfl⟩
                                  · by_cases p3 : 191 < z3
                                    · rw [rounds_succ]
                                      go_wp2
                                      go_ret
                                      exact ⟨ret_bool (by rw [← HV.out]; exact (bad4 HD.out (by omega) hu (by rw [HL.out, A1.out, hlo, hhi, A2.out, A3.out]; omega)).symm), rfl⟩
                                    · rw [rounds_succ]
                                      go_wp2
                                      rw [rounds_succ]
                                      go_wp2
                                      go_round
                                      case rel => exact ⟨k + 4, by omega, by go_num, by rw [← HV.out, ← H4.out]; exact (ok4 HD.out (by omega) hu (by rw [HL.out]; omega) (by rw [A1.out]; rw [hlo]; omega) (by rw [A1.out]; rw [hhi]; omega) (by rw [A2.out]; omega) (by rw [A2.out]; omega) (by rw [A3.out]; omega) (by rw [A3.out]; omega)).symm⟩
                                      case measure => simp [intOf]; omega
                                · have m3 : (s.size : Int) ≤ (k : Int) + 3 := by omega
                                  rw [rounds_succ]
                                  go_wp2
                                  go_ret
                                  exact ⟨ret_bool (by rw [← HV.out]; exact (bad4 HD.out (by omega) hu (by rw [HL.out, A1.out, hlo, hhi, A2.out, A3.out]; omega)).symm), rfl⟩
                          · have m2 : (s.size : Int) ≤ (k : Int) + 2 := by omega
                            rw [rounds_succ]
                            go_wp2
                            go_ret
                            exact ⟨ret_bool (by rw [← HV.out]; exact (bad4 HD.out (by omega) hu (by rw [HL.out, A1.out, hlo, hhi, A2.out, A3.out]; omega)).symm), rfl⟩
                    · have m1 : (s.size : Int) ≤ (k : Int) + 1 := by omega
                      rw [rounds_succ]
                      go_wp2
                      go_ret
                      exact ⟨ret_bool (by rw [← HV.out]; exact (bad4 HD.out (by omega) hu (by rw [HL.out, A1.out, hlo, hhi, A2.out, A3.out]; omega)).symm), rfl⟩
                · by_cases g2 : z = 244
                  · subst g2
                    have hlo : ulo 244 = 128 := by decide
                    have hhi : uhi 244 = 143 := by decide
                    as_aux_lemma =>
                      go_wp2
                      refine wp_loop_rounds 4 ?_
                      by_cases n1 : k + 1 < s.size
                      · have hq1 := idx s ((k : Int) + 1) (k + 1) w (by omega) n1
                        have m1 : ¬ ((s.size : Int) ≤ (k : Int) + 1) := by omega
                        obtain ⟨z1, hz1⟩ : ∃ z, z = (nums s).getD (k + 1) 0 := ⟨_, rfl⟩
                        rw [← hz1] at hq1
                        have HZ1 : Hid (z1 = (nums s).getD (k + 1) 0) := hz1
                        have A1' := A1.out
                        rw [← hz1] at A1'
                        replace A1 : Hid (((nums s).drop k).getD 1 0 = z1) := A1'
                        clear A1' hz1
                        by_cases o1 : z1 < 128
                        · rw [rounds_succ]
                          go_wp2
                          go_ret
                          exact ⟨ret_bool (by rw [← HV.out]; exact (bad4 HD.out (by omega) hu (by rw [HL.out, A1.out, hlo, hhi, A2.out, A3.out]; omega)).symm), rfl⟩
                        · by_cases p1 : 143 < z1
                          · rw [rounds_succ]
                            go_wp2
                            go_ret
                            exact ⟨ret_bool (by rw [← HV.out]; exact (bad4 HD.out (by omega) hu (by rw [HL.out, A1.out, hlo, hhi, A2.out, A3.out]; omega)).symm), rfl⟩
                          · rw [rounds_succ]
                            go_wp2
                            by_cases n2 : k + 2 < s.size
                            · have hq2 := idx s ((k : Int) + 2) (k + 2) w (by omega) n2
                              have m2 : ¬ ((s.size : Int) ≤ (k : Int) + 2) := by omega
                              obtain ⟨z2, hz2⟩ : ∃ z, z = (nums s).getD (k + 2) 0 := ⟨_, rfl⟩
                              rw [← hz2] at hq2
                              have HZ2 : Hid (z2 = (nums s).getD (k + 2) 0) := hz2
                              have A2' := A2.out
                              rw [← hz2] at A2'
                              replace A2 : Hid (((nums s).drop k).getD 2 0 = z2) := A2'
                              clear A2' hz2
                              by_cases o2 : z2 < 128
                              · rw [rounds_succ]
                                go_wp2
                                go_ret
                                exact ⟨ret_bool (by rw [← HV.out]; exact (bad4 HD.out (by omega) hu (by rw [HL.out, A1.out, hlo, hhi, A2.out, A3.out]; omega)).symm), rfl⟩
                              · by_cases p2 : 191 < z2
                                · rw [rounds_succ]
                                  go_wp2
                                  go_ret
                                  exact ⟨ret_bool (by rw [← HV.out]; exact (bad4 HD.out (by omega) hu (by rw [HL.out, A1.out, hlo, hhi, A2.out, A3.out]; omega)).symm), rfl⟩
                                · rw [rounds_succ]
                                  go_wp2
                                  by_cases n3 : k + 3 < s.size
                                  · have hq3 := idx s ((k : Int) + 3) (k + 3) w (by omega) n3
                                    have m3 : ¬ ((s.size : Int) ≤ (k : Int) + 3) := by omega
                                    obtain ⟨z3, hz3⟩ : ∃ z, z = (nums s).getD (k + 3) 0 := ⟨_, rfl⟩
                                    rw [← hz3] at hq3
                                    have HZ3 : Hid (z3 = (nums s).getD (k + 3) 0) := hz3
                                    have A3' := A3.out
                                    rw [← hz3] at A3'
                                    replace A3 : Hid (((nums s).drop k).getD 3 0 = z3) := A3'
                                    clear A3' hz3
                                    by_cases o3 : z3 < 128
                                    · rw [rounds_succ]
                                      go_wp2
                                      go_ret
                                      exact ⟨ret_bool (by rw [← HV.out]; exact (bad4 HD.out (by omega) hu (by rw [HL.out, A1.out, hlo, hhi, A2.out, A3.out]; omega)).symm), rfl⟩
                                    · by_cases p3 : 191 < z3
                                      · rw [rounds_succ]
                                        go_wp2
                                        go_ret
                                        exact ⟨ret_bool (by rw [← HV.out]; exact (bad4 HD.out (by omega) hu (by rw [HL.out, A1.out, hlo, hhi, A2.out, A3.out]; omega)).symm), rfl⟩
                                      · rw [rounds_succ]
                                        go_wp2
                                        rw [rounds_succ]
                                        go_wp2
                                        go_round
                                        case rel => exact ⟨k + 4, by omega, by go_num, by rw [← HV.out, ← H4.out]; exact (ok4 HD.out (by omega) hu (by rw [HL.out]; omega) (by rw [A1.out]; rw [hlo]; omega) (by rw [A1.out]; rw [hhi]; omega) (by rw [A2.out]; omega) (by rw [A2.out]; omega) (by rw [A3.out]; omega) (by rw [A3.out]; omega)).symm⟩
                                        case measure => simp [intOf]; omega
                                  · have m3 : (s.size : Int) ≤ (k : Int) + 3 := by omega
                                    rw [rounds_succ]
                                    go_wp2
                                    go_ret
                                    exact ⟨ret_bool (by rw [← HV.out]; exact (bad4 HD.out (by omega) hu (by rw [HL.out, A1.out, hlo, hhi, A2.out, A3.out]; omega)).symm), rfl⟩
                            · have m2 : (s.size : Int) ≤ (k : Int) + 2 := by omega
                              rw [rounds_succ]
                              go_wp2
                              go_ret
                              exact ⟨ret_bool (by rw [← HV.out]; exact (bad4 HD.out (by omega) hu (by rw [HL.out, A1.out, hlo, hhi, A2.out, A3.out]; omega)).symm), rfl⟩
                      · have m1 : (s.size : Int) ≤ (k : Int) + 1 := by omega
                        rw [rounds_succ]
                        go_wp2
                        go_ret
                        exact ⟨ret_bool (by rw [← HV.out]; exact (bad4 HD.out (by omega) hu (by rw [HL.out, A1.out, hlo, hhi, A2.out, A3.out]; omega)).symm), rfl⟩
                  · have hlo : ulo z = 128 := by unfold ulo; rw [if_neg (by omega), if_neg (by omega)]
                    have hhi : uhi z = 191 := by unfold uhi; rw [if_neg (by omega), if_neg (by omega)]
                    have ca : ¬ z < 128 := by omega
                    have cb : 194 ≤ z := by omega
                    have cc : ¬ z ≤ 223 := by omega
                    have cd : 224 ≤ z := by omega
                    have ce : ¬ z ≤ 239 := by omega
                    have cf : 240 ≤ z := by omega
                    have cg : z ≤ 244 := by omega
                    have g1' : (z == 240) = false := by simpa using g1
                    have g2' : (z == 244) = false := by simpa using g2
                    as_aux_lemma =>
                      go_wp2
                      refine wp_loop_rounds 4 ?_
                      by_cases n1 : k + 1 < s.size
                      · have hq1 := idx s ((k : Int) + 1) (k + 1) w (by omega) n1
                        have m1 : ¬ ((s.size : Int) ≤ (k : Int) + 1) := by omega
                        obtain ⟨z1, hz1⟩ : ∃ z, z = (nums s).getD (k + 1) 0 := ⟨_, rfl⟩
                        rw [← hz1] at hq1
                        have HZ1 : Hid (z1 = (nums s).getD (k + 1) 0) := hz1
                        have A1' := A1.out
                        rw [← hz1] at A1'
                        replace A1 : Hid (((nums s).drop k).getD 1 0 = z1) := A1'
                        clear A1' hz1
                        by_cases o1 : z1 < 128
                        · rw [rounds_succ]
                          go_wp2
                          go_ret
                          exact ⟨ret_bool (by rw [← HV.out]; exact (bad4 HD.out (by omega) hu (by rw [HL.out, A1.out, hlo, hhi, A2.out, A3.out]; omega)).symm), rfl⟩
                        · by_cases p1 : 191 < z1
                          · rw [rounds_succ]
                            go_wp2
                            go_ret
                            exact ⟨ret_bool (by rw [← HV.out]; exact (bad4 HD.out (by omega) hu (by rw [HL.out, A1.out, hlo, hhi, A2.out, A3.out]; omega)).symm), rfl⟩
                          · rw [rounds_succ]
                            go_wp2
                            by_cases n2 : k + 2 < s.size
                            · have hq2 := idx s ((k : Int) + 2) (k + 2) w (by omega) n2
                              have m2 : ¬ ((s.size : Int) ≤ (k : Int) + 2) := by omega
                              obtain ⟨z2, hz2⟩ : ∃ z, z = (nums s).getD (k + 2) 0 := ⟨_, rfl⟩
                              rw [← hz2] at hq2
                              have HZ2 : Hid (z2 = (nums s).getD (k + 2) 0) := hz2
                              have A2' := A2.out
                              rw [← hz2] at A2'
                              replace A2 : Hid (((nums s).drop k).getD 2 0 = z2) := A2'
                              clear A2' hz2
                              by_cases o2 : z2 < 128
                              · rw [rounds_succ]
                                go_wp2
                                go_ret
                                exact ⟨ret_bool (by rw [← HV.out]; exact (bad4 HD.out (by omega) hu (by rw [HL.out, A1.out, hlo, hhi, A2.out, A3.out]; omega)).symm), rfl⟩
                              · by_cases p2 : 191 < z2
                                · rw [rounds_succ]
                                  go_wp2
                                  go_ret
                                  exact ⟨ret_bool (by rw [← HV.out]; exact (bad4 HD.out (by omega) hu (by rw [HL.out, A1.out, hlo, hhi, A2.out, A3.out]; omega)).symm), rfl⟩
                                · rw [rounds_succ]
                                  go_wp2
                                  by_cases n3 : k + 3 < s.size
                                  · have hq3 := idx s ((k : Int) + 3) (k + 3) w (by omega) n3
                                    have m3 : ¬ ((s.size : Int) ≤ (k : Int) + 3) := by omega
                                    obtain ⟨z3, hz3⟩ : ∃ z, z = (nums s).getD (k + 3) 0 := ⟨_, rfl⟩
                                    rw [← hz3] at hq3
                                    have HZ3 : Hid (z3 = (nums s).getD (k + 3) 0) := hz3
                                    have A3' := A3.out
                                    rw [← hz3] at A3'
                                    replace A3 : Hid (((nums s).drop k).getD 3 0 = z3) := A3'
                                    clear A3' hz3
                                    by_cases o3 : z3 < 128
                                    · rw [rounds_succ]
                                      go_wp2
                                      go_ret
                                      exact ⟨ret_bool (by rw [← HV.out]; exact (bad4 HD.out (by omega) hu (by rw [HL.out, A1.out, hlo, hhi, A2.out, A3.out]; omega)).symm), rfl⟩
                                    · by_cases p3 : 191 < z3
                                      · rw [rounds_succ]
                                        go_wp2
                                        go_ret
                                        exact ⟨ret_bool (by rw [← HV.out]; exact (bad4 HD.out (by omega) hu (by rw [HL.out, A1.out, hlo, hhi, A2.out, A3.out]; omega)).symm), rfl⟩
                                      · rw [rounds_succ]
                                        go_wp2
                                        rw [rounds_succ]
                                        go_wp2
                                        go_round
                                        case rel => exact ⟨k + 4, by omega, by go_num, by rw [← HV.out, ← H4.out]; exact (ok4 HD.out (by omega) hu (by rw [HL.out]; omega) (by rw [A1.out]; rw [hlo]; omega) (by rw [A1.out]; rw [hhi]; omega) (by rw [A2.out]; omega) (by rw [A2.out]; omega) (by rw [A3.out]; omega) (by rw [A3.out]; omega)).symm⟩
                                        case measure => simp [intOf]; omega
                                  · have m3 : (s.size : Int) ≤ (k : Int) + 3 := by omega
                                    rw [rounds_succ]
                                    go_wp2
                                    go_ret
                                    exact ⟨ret_bool (by rw [← HV.out]; exact (bad4 HD.out (by omega) hu (by rw [HL.out, A1.out, hlo, hhi, A2.out, A3.out]; omega)).symm), rfl⟩
                            · have m2 : (s.size : Int) ≤ (k : Int) + 2 := by omega
                              rw [rounds_succ]
                              go_wp2
                              go_ret
                              exact ⟨ret_bool (by rw [← HV.out]; exact (bad4 HD.out (by omega) hu (by rw [HL.out, A1.out, hlo, hhi, A2.out, A3.out]; omega)).symm), rfl⟩
                      · have m1 : (s.size : Int) ≤ (k : Int) + 1 := by omega
                        rw [rounds_succ]
                        go_wp2
                        go_ret
                        exact ⟨ret_bool (by rw [← HV.out]; exact (bad4 HD.out (by omega) hu (by rw [HL.out, A1.out, hlo, hhi, A2.out, A3.out]; omega)).symm), rfl⟩
              · have hu : usz z = 1 := by unfold usz; rw [if_neg (by omega), if_neg (by omega), if_neg (by omega)]
                have ca : ¬ z < 128 := by omega
                have cb : 194 ≤ z := by omega
                have cc : ¬ z ≤ 223 := by omega
                have cd : 224 ≤ z := by omega
                have ce : ¬ z ≤ 239 := by omega
                have cf : 240 ≤ z := by omega
                have cg : ¬ z ≤ 244 := by omega
                go_wp2
                go_ret
                exact ⟨ret_bool (by rw [← HV.out]; exact (bad1 HD.out (by omega) hu).symm), rfl⟩
    · have hkn : k = s.size := by omega
      rw [List.drop_of_length_le (by omega), vld_nil] at hv
      have HV : Hid (true = vld (nums s)) := hv
      clear hv
      go_wp2
      go_ret
      exact ⟨ret_bool HV.out, rfl⟩

end Go.Proofs.YtiidjdedeenijaaDoor
