/- Frames, as lists of numbers: how a stream is cut into payloads (no word of a program). -/
import Derived.Test.YtmpoddgmkneffaaBytes
namespace Go.Proofs.Ytmpoddgmkneffaa

/-- The first k bytes as a number, the highest first. -/
def beK (xs : List Int) : Nat → Nat
  | 0 => 0
  | k + 1 => beK xs k * 256 + (xs.getD k 0).toNat

def be (xs : List Int) : Nat := beK xs 4

theorem beK_lt {xs : List Int} (h : Bd xs) : ∀ k, beK xs k < 256 ^ k
  | 0 => by simp [beK]
  | k + 1 => by
    have h1 := beK_lt h k
    have h2 := h.get k
    rw [beK, Nat.pow_succ]
    omega

theorem be_lt {xs : List Int} (h : Bd xs) : be xs < 4294967296 := by
  have := beK_lt h 4
  simpa [be] using this

theorem beK_append (l b : List Int) : ∀ k, k ≤ l.length → beK (l ++ b) k = beK l k
  | 0, _ => rfl
  | k + 1, h => by
    rw [beK, beK, beK_append l b k (by omega)]
    congr 2
    simp [List.getD, List.getElem?_append_left (show k < l.length by omega)]

theorem be_append {l b : List Int} (h : 4 ≤ l.length) : be (l ++ b) = be l := beK_append l b 4 h

/-- A stream, cut: the payloads, what is held, whether a length was too great (f: no more than so many frames). -/
def cutF (M : Nat) : Nat → List Int → List (List Int) × List Int × Bool
  | 0, l => ([], l, false)
  | f + 1, l =>
    if l.length < 4 then ([], l, false)
    else if M < be l then ([], [], true)
    else if l.length - 4 < be l then ([], l, false)
    else ((l.drop 4).take (be l) :: (cutF M f (l.drop (4 + be l))).1, (cutF M f (l.drop (4 + be l))).2)
def cut (M : Nat) (l : List Int) : List (List Int) × List Int × Bool := cutF M l.length l

theorem cutF_eq (M : Nat) : ∀ f g l, l.length ≤ f → l.length ≤ g → cutF M f l = cutF M g l
  | 0, 0, _, _, _ => rfl
  | 0, g + 1, l, h, _ => by rw [cutF, cutF, if_pos (by omega)]
  | f + 1, 0, l, _, h => by rw [cutF, cutF, if_pos (by omega)]
  | f + 1, g + 1, l, h, h' => by
    rw [cutF, cutF]
    by_cases h1 : l.length < 4
    · rw [if_pos h1, if_pos h1]
    · by_cases h2 : M < be l
      · rw [if_neg h1, if_neg h1, if_pos h2, if_pos h2]
      · by_cases h3 : l.length - 4 < be l
        · rw [if_neg h1, if_neg h1, if_neg h2, if_neg h2, if_pos h3, if_pos h3]
        · rw [if_neg h1, if_neg h1, if_neg h2, if_neg h2, if_neg h3, if_neg h3, cutF_eq M f g (l.drop (4 + be l)) (by rw [List.length_drop]; omega) (by rw [List.length_drop]; omega)]

theorem cut_short {M : Nat} {l : List Int} (h : l.length < 4) : cut M l = ([], l, false) := by
  unfold cut
  cases l.length with
  | zero => rw [cutF]
  | succ f => rw [cutF, if_pos h]
theorem cut_succ {M : Nat} {l : List Int} (h : ¬ l.length < 4) : ∃ f, cut M l = cutF M (f + 1) l ∧ l.length = f + 1 := ⟨l.length - 1, by unfold cut; rw [show l.length - 1 + 1 = l.length by omega], by omega⟩
theorem cut_big {M : Nat} {l : List Int} (h : ¬ l.length < 4) (h2 : M < be l) : cut M l = ([], [], true) := by
  obtain ⟨f, e, _⟩ := cut_succ (M := M) h
  rw [e, cutF, if_neg h, if_pos h2]
theorem cut_wait {M : Nat} {l : List Int} (h : ¬ l.length < 4) (h2 : ¬ M < be l) (h3 : l.length - 4 < be l) : cut M l = ([], l, false) := by
  obtain ⟨f, e, _⟩ := cut_succ (M := M) h
  rw [e, cutF, if_neg h, if_neg h2, if_pos h3]
theorem cut_more {M : Nat} {l : List Int} (h : ¬ l.length < 4) (h2 : ¬ M < be l) (h3 : ¬ l.length - 4 < be l) :
    cut M l = ((l.drop 4).take (be l) :: (cut M (l.drop (4 + be l))).1, (cut M (l.drop (4 + be l))).2) := by
  obtain ⟨f, e, hf⟩ := cut_succ (M := M) h
  rw [e, cutF, if_neg h, if_neg h2, if_neg h3]
  have k : cutF M f (l.drop (4 + be l)) = cut M (l.drop (4 + be l)) := cutF_eq M f _ _ (by rw [List.length_drop]; omega) (Nat.le_refl _)
  rw [k]
theorem cut_induct (M : Nat) {motive : List Int → Prop} (case1 : ∀ l : List Int, l.length < 4 → motive l) (case2 : ∀ l : List Int, ¬ l.length < 4 → M < be l → motive l)
    (case3 : ∀ l : List Int, ¬ l.length < 4 → ¬ M < be l → l.length - 4 < be l → motive l) (case4 : ∀ l : List Int, ¬ l.length < 4 → ¬ M < be l → ¬ l.length - 4 < be l → motive (l.drop (4 + be l)) → motive l) (l : List Int) : motive l := by
  have key : ∀ f (l : List Int), l.length ≤ f → motive l := by
    intro f
    induction f with
    | zero => intro l h; exact case1 l (by omega)
    | succ f ih =>
      intro l h
      by_cases h1 : l.length < 4
      · exact case1 l h1
      · by_cases h2 : M < be l
        · exact case2 l h1 h2
        · by_cases h3 : l.length - 4 < be l
          · exact case3 l h1 h2 h3
          · exact case4 l h1 h2 h3 (ih _ (by rw [List.length_drop]; omega))
  exact key l.length l (Nat.le_refl _)

theorem cut_held (M : Nat) (l : List Int) : (cut M l).2.2 = true → (cut M l).2.1 = [] := by
  induction l using cut_induct M with
  | case1 l h => rw [cut_short h]; intro e; cases e
  | case2 l h h2 => rw [cut_big h h2]; intro _; rfl
  | case3 l h h2 h3 => rw [cut_wait h h2 h3]; intro e; cases e
  | case4 l h h2 h3 ih => rw [cut_more h h2 h3]; exact ih

theorem cut_len (M : Nat) (l : List Int) : (cut M l).2.1.length ≤ l.length ∧ (cut M l).1.length ≤ l.length := by
  induction l using cut_induct M with
  | case1 l h => rw [cut_short h]; simp
  | case2 l h h2 => rw [cut_big h h2]; simp
  | case3 l h h2 h3 => rw [cut_wait h h2 h3]; simp
  | case4 l h h2 h3 ih =>
    rw [cut_more h h2 h3]
    simp only [List.length_drop, List.length_cons] at ih ⊢
    omega

theorem cut_bd {M : Nat} {l : List Int} (hb : Bd l) : Bd (cut M l).2.1 ∧ ∀ p ∈ (cut M l).1, Bd p := by
  induction l using cut_induct M with
  | case1 l h => rw [cut_short h]; exact ⟨hb, fun p hp => by cases hp⟩
  | case2 l h h2 => rw [cut_big h h2]; exact ⟨Bd.nil, fun p hp => by cases hp⟩
  | case3 l h h2 h3 => rw [cut_wait h h2 h3]; exact ⟨hb, fun p hp => by cases hp⟩
  | case4 l h h2 h3 ih =>
    rw [cut_more h h2 h3]
    refine ⟨(ih (hb.drop _)).1, fun p hp => ?_⟩
    rcases List.mem_cons.1 hp with g | g
    · subst g; exact (hb.drop _).take _
    · exact (ih (hb.drop _)).2 p g

theorem cut_none {M : Nat} {l h : List Int} (e : cut M l = ([], h, false)) : h = l := by
  by_cases h1 : l.length < 4
  · rw [cut_short h1] at e; cases e; rfl
  · by_cases h2 : M < be l
    · rw [cut_big h1 h2] at e; cases e
    · by_cases h3 : l.length - 4 < be l
      · rw [cut_wait h1 h2 h3] at e; cases e; rfl
      · rw [cut_more h1 h2 h3] at e; cases e

/-- Cutting is not seen. -/
theorem cut_app (M : Nat) (l b : List Int) :
    cut M (l ++ b) = if (cut M l).2.2 = true then ((cut M l).1, [], true) else ((cut M l).1 ++ (cut M ((cut M l).2.1 ++ b)).1, (cut M ((cut M l).2.1 ++ b)).2) := by
  induction l using cut_induct M with
  | case1 l h => rw [cut_short h]; simp
  | case2 l h h2 =>
    rw [cut_big h h2, cut_big (by simp; omega) (by rw [be_append (by omega)]; exact h2)]
    simp
  | case3 l h h2 h3 => rw [cut_wait h h2 h3]; simp
  | case4 l h h2 h3 ih =>
    rw [cut_more h h2 h3, cut_more (l := l ++ b) (by simp; omega) (by rw [be_append (by omega)]; exact h2) (by rw [be_append (by omega)]; simp; omega)]
    rw [be_append (by omega), List.drop_append_of_le_length (by omega), List.drop_append_of_le_length (by omega), List.take_append_of_le_length (by simp; omega), ih]
    by_cases hb : (cut M (l.drop (4 + be l))).2.2 = true
    · simp [hb]
    · simp [hb]

/-! ### Frames that are written -/
def be32 (n : Nat) : List Int := [((n / 16777216 % 256 : Nat) : Int), ((n / 65536 % 256 : Nat) : Int), ((n / 256 % 256 : Nat) : Int), ((n % 256 : Nat) : Int)]
def frm (ps : List Int) : List Int := be32 ps.length ++ ps

theorem be32_bd (n : Nat) : Bd (be32 n) := by
  intro x hx
  simp only [be32, List.mem_cons, List.not_mem_nil, or_false] at hx
  omega
theorem frm_bd {ps : List Int} (h : Bd ps) : Bd (frm ps) := (be32_bd _).append h
theorem frm_len (ps : List Int) : (frm ps).length = 4 + ps.length := by simp [frm, be32]; omega
theorem be_be32 {n : Nat} (h : n < 4294967296) (b : List Int) : be (be32 n ++ b) = n := by
  rw [be_append (by simp [be32])]
  simp only [be, beK, be32, List.getD, List.getElem?_cons_zero, List.getElem?_cons_succ, Option.getD_some]
  omega
theorem be_frm {ps b : List Int} (h : ps.length < 4294967296) : be (frm ps ++ b) = ps.length := by
  rw [frm, List.append_assoc]; exact be_be32 h _

theorem cut_frm {M : Nat} {ps b : List Int} (h : ps.length < 4294967296) (hM : ps.length ≤ M) : cut M (frm ps ++ b) = (ps :: (cut M b).1, (cut M b).2) := by
  have e := be_frm (b := b) h
  have hl := frm_len ps
  rw [cut_more (by simp; omega) (by rw [e]; omega) (by rw [e]; simp; omega), e]
  have d4 : (frm ps ++ b).drop 4 = ps ++ b := by rw [frm, List.append_assoc]; exact List.drop_left' rfl
  have dk : (frm ps ++ b).drop (4 + ps.length) = b := by rw [← hl]; exact List.drop_left' rfl
  rw [d4, dk, List.take_left' rfl]
theorem cut_frm_big {M : Nat} {ps b : List Int} (h : ps.length < 4294967296) (hM : M < ps.length) : cut M (frm ps ++ b) = ([], [], true) := by
  have e := be_frm (b := b) h
  have hl := frm_len ps
  exact cut_big (by simp; omega) (by rw [e]; exact hM)

/-- Some frames, one behind the other. -/
def frms : List (List Int) → List Int
  | [] => []
  | p :: r => frm p ++ frms r
theorem frms_append (a b : List (List Int)) : frms (a ++ b) = frms a ++ frms b := by
  induction a with
  | nil => rfl
  | cons p r ih => simp [frms, ih]
theorem cut_frms {M : Nat} (b : List Int) : ∀ {l : List (List Int)}, (∀ p ∈ l, p.length < 4294967296 ∧ p.length ≤ M) → cut M (frms l ++ b) = (l ++ (cut M b).1, (cut M b).2)
  | [], _ => by simp [frms]
  | p :: r, h => by
    have hp := h p (List.mem_cons_self ..)
    rw [frms, List.append_assoc, cut_frm hp.1 hp.2, cut_frms b (fun q hq => h q (List.mem_cons_of_mem _ hq))]
    simp

end Go.Proofs.Ytmpoddgmkneffaa
