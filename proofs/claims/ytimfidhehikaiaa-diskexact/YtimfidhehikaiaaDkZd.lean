/- The document's disk: Rename. -/
import Derived.Test.YtimfidhehikaiaaDkZb
namespace Go.Proofs.Ytimfidhehikaiaa
open Go.RowKit Go.Joins

theorem put_drop_self {l : Fls} (hr : Rise l) {s : Nm} {f : Fle} (h : look l s = some f) : putL (dropL l s) s f = l := by
  induction l with
  | nil => cases h
  | cons q r ih =>
    obtain ⟨n, g⟩ := q
    unfold look at h
    have hnot : ∀ p ∈ r, p.1 ≠ n := fun p hp e => ltN_irrefl n (by have := hr.1 p hp; rw [e] at this; exact this)
    split at h
    · rename_i e
      cases h
      subst e
      have hd : dropL r n = r := by
        have : ∀ (r : Fls), (∀ p ∈ r, p.1 ≠ n) → dropL r n = r := fun r => by
          induction r with
          | nil => intro _; rfl
          | cons y t iht =>
            intro hy
            obtain ⟨m, x⟩ := y
            unfold dropL
            rw [if_neg (hy (m, x) (List.mem_cons_self ..)), iht (fun p hp => hy p (List.mem_cons_of_mem _ hp))]
        exact this r hnot
      unfold dropL
      rw [if_pos rfl, hd]
      have h2 : ∀ x, r.head? = some x → ltN n x.1 := fun x hx => by
        cases r with
        | nil => cases hx
        | cons y t => cases hx; exact hr.1 _ (List.mem_cons_self ..)
      exact put_split (p := []) (q := r) (fun x hx => by cases hx) h2
    · rename_i e
      have hs := look_mem h
      have hlt : ltN n s := hr.1 _ hs
      unfold dropL
      rw [if_neg e]
      unfold putL
      rw [if_neg (fun h => ltN_irrefl _ (ltN_trans h hlt)), if_neg e, ih hr.2 h]

/-- A file of another name goes first: what is put is the same. -/
theorem put_dropped {l : Fls} (hr : Rise l) (t : Nm) (f : Fle) : putL (dropL l t) t f = putL l t f := by
  induction l with
  | nil => rfl
  | cons q r ih =>
    obtain ⟨n, g⟩ := q
    have hid : ∀ (r : Fls), (∀ p ∈ r, ltN t p.1) → dropL r t = r := fun r => by
      induction r with
      | nil => intro _; rfl
      | cons y u iht =>
        intro hy
        obtain ⟨m, x⟩ := y
        have hm : ltN t m := hy (m, x) (List.mem_cons_self ..)
        unfold dropL
        rw [if_neg (fun e => by subst e; exact ltN_irrefl _ hm), iht (fun p hp => hy p (List.mem_cons_of_mem _ hp))]
    by_cases e : n = t
    · subst e
      have h2 : dropL ((n, g) :: r) n = r := by
        unfold dropL
        rw [if_pos rfl, hid r hr.1]
      rw [h2]
      have h3 : putL ((n, g) :: r) n f = (n, f) :: r := by unfold putL; rw [if_neg (ltN_irrefl n), if_pos rfl]
      rw [h3]
      refine put_split (p := []) (q := r) (fun x hx => by cases hx) (fun x hx => ?_)
      cases r with
      | nil => cases hx
      | cons y u => cases hx; exact hr.1 _ (List.mem_cons_self ..)
    · by_cases hlt : ltN t n
      · have h2 : dropL ((n, g) :: r) t = (n, g) :: r := hid _ (fun p hp => by
          rcases List.mem_cons.1 hp with rfl | hp
          · exact hlt
          · exact ltN_trans hlt (hr.1 p hp))
        rw [h2]
      · unfold dropL
        rw [if_neg e]
        unfold putL
        rw [if_neg hlt, if_neg e, if_neg hlt, if_neg e, ih hr.2]

theorem drop_other {l : Fls} {s t : Nm} {f : Fle} (hne : ¬ s = t) (h : look l s = some f) : look (dropL l t) s = some f := by
  rw [look_drop, if_neg hne]; exact h

/-- What Rename answers ahead of the power. -/
def renE (k : Dk) (s t : Nm) : Nat := if k.off then 13 else if isNm t = false then 4 else if isNm s = false then 4 else if look k.fs s = none then 7 else 0

set_option maxRecDepth 100000 in
set_option maxHeartbeats 4000000 in
/-- Refused, or the power fails, or one name. -/
theorem refRename_no (rd : Nat) (G : Nat → Prop) (k : Dk) (s t : Nm) (hs : s.size ≤ 9223372036854775807) (ht : t.size ≤ 9223372036854775807) (w : World) (hR : RefAt w G rd k) (hne : renE k s t ≠ 0) :
    Calls Try.prog 30 #[.pointer (some ⟨rd, 0, none⟩), .string s, .string t] w fun e w' => e = .returned (.int .i64 (renE k s t : Int)) ∧ w' = w := by
  have hF := first_any rd G k s hs false w hR
  have hRt := right_any t ht w
  have hA := at_any rd G k s w hR
  unfold renE at hne ⊢
  unfold firstK at hF
  clear hR
  cases on : k.off with
  | true =>
    rw [on, if_pos rfl] at hF
    rw [if_pos rfl]
    clear hne on
    go_enter Try.func30, Try.ntmps30
    go_wp2_with (first
      | (go_at_call 53; refine hF.mono ?_; rintro e w1 ⟨rfl, hw1⟩; replace hw1 := hw1.symm; subst hw1))
    go_ret
    exact ⟨rfl, rfl⟩
  | false =>
    rw [on, if_neg (by decide)] at hF hne
    rw [if_neg (by decide)]
    clear on
    cases hn : isNm s with
    | false =>
      rw [hn, if_pos rfl] at hF
      have e : (if isNm t = false then 4 else if false = false then 4 else if look k.fs s = none then 7 else 0 : Nat) = 4 := by split <;> simp
      rw [e]
      clear hne hn e
      go_enter Try.func30, Try.ntmps30
      go_wp2_with (first
        | (go_at_call 53; refine hF.mono ?_; rintro e w1 ⟨rfl, hw1⟩; replace hw1 := hw1.symm; subst hw1))
      go_ret
      exact ⟨rfl, rfl⟩
    | true =>
      rw [hn, if_neg (by decide), if_neg (by simp)] at hF
      cases hn2 : isNm t with
      | false =>
        rw [if_pos rfl]
        rw [hn2] at hRt
        clear hne hn hn2
        go_enter Try.func30, Try.ntmps30
        go_wp2_with (first
          | (go_at_call 53; refine hF.mono ?_; rintro e w1 ⟨rfl, hw1⟩; replace hw1 := hw1.symm; subst hw1)
          | (go_at_call 64; refine hRt.mono ?_; rintro e w1 ⟨rfl, hw1⟩; replace hw1 := hw1.symm; subst hw1))
        go_ret
        exact ⟨rfl, rfl⟩
      | true =>
        rw [hn, hn2, if_neg (by decide), if_neg (by decide)] at hne
        rw [if_neg (by decide), if_neg (by decide)]
        rw [hn2] at hRt
        have hl : look k.fs s = none := Classical.byContradiction (fun h => hne (if_neg h))
        rw [if_pos hl]
        rw [ixL_none hl] at hA
        clear hne hn hn2 hl
        go_enter Try.func30, Try.ntmps30
        go_wp2_with (first
          | (go_at_call 53; refine hF.mono ?_; rintro e w1 ⟨rfl, hw1⟩; replace hw1 := hw1.symm; subst hw1)
          | (go_at_call 64; refine hRt.mono ?_; rintro e w1 ⟨rfl, hw1⟩; replace hw1 := hw1.symm; subst hw1)
          | (go_at_call 55; refine hA.mono ?_; rintro e w1 ⟨rfl, hw1⟩; replace hw1 := hw1.symm; subst hw1))
        go_ret
        exact ⟨rfl, rfl⟩

theorem renameK_no (k : Dk) (s t : Nm) (h : renE k s t ≠ 0) : renameK k s t = (renE k s t, k) := by
  unfold renE at h ⊢
  unfold renameK stepK
  cases on : k.off <;> cases h1 : isNm t <;> cases h2 : isNm s <;> cases h3 : look k.fs s <;> simp_all
theorem renameK_yes (k : Dk) (s t : Nm) (h : renE k s t = 0) : k.off = false ∧ isNm s = true ∧ isNm t = true ∧ ∃ f, look k.fs s = some f ∧ renameK k s t = if (passK k).1 ≠ 0 then passK k else (0, { (passK k).2 with fs := putL (dropL (passK k).2.fs s) t f }) := by
  unfold renE at h
  unfold renameK stepK
  cases on : k.off <;> cases h1 : isNm t <;> cases h2 : isNm s <;> cases h3 : look k.fs s <;> simp_all

end Go.Proofs.Ytimfidhehikaiaa
