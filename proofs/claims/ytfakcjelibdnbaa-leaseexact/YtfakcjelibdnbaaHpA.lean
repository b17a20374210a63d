/- lease: a heap in a row, by itself: what a swap, a step up, a step down leave. -/
import Derived.Test.YtfakcjelibdnbaaMtA
namespace Go.Proofs.Ytfakcjelibdnbaa

/-- A lease: its block, its key, its end, when it was set. -/
structure El where
  b : Nat
  k : ByteArray
  e : Nat
  t : Nat

def El.x (a : El) : Int := Fl.sr a.e
/-- It comes first. -/
abbrev El.Lt (a b : El) : Prop := a.x < b.x ∨ (a.x = b.x ∧ a.t < b.t)
def El.Le (a b : El) : Prop := a.x < b.x ∨ (a.x = b.x ∧ a.t ≤ b.t)

theorem El.Le.refl (a : El) : a.Le a := by unfold El.Le; omega
theorem El.Le.trans {a b c : El} (h : a.Le b) (k : b.Le c) : a.Le c := by unfold El.Le at *; omega
theorem El.not_lt {a b : El} (h : ¬ a.Lt b) : b.Le a := by unfold El.Le; unfold El.Lt at h; omega
theorem El.Lt.le {a b : El} (h : a.Lt b) : a.Le b := by unfold El.Le; unfold El.Lt at h; omega
theorem El.Le.not {a b : El} (h : a.Le b) : ¬ b.Lt a := by unfold El.Le at h; unfold El.Lt; omega

def sw (d : Nat → El) (i j : Nat) : Nat → El := fun k => if k = i then d j else if k = j then d i else d k
theorem sw_l (d : Nat → El) (i j : Nat) : sw d i j i = d j := by simp [sw]
theorem sw_r (d : Nat → El) (i j : Nat) : sw d i j j = d i := by unfold sw; split <;> simp_all
theorem sw_o (d : Nat → El) {i j k : Nat} (h1 : k ≠ i) (h2 : k ≠ j) : sw d i j k = d k := by simp [sw, h1, h2]
theorem sw_same (d : Nat → El) (i : Nat) : sw d i i = d := by funext k; unfold sw; split <;> simp_all

/-- No block twice. -/
def Inj (d : Nat → El) (n : Nat) : Prop := ∀ i j, i < n → j < n → (d i).b = (d j).b → i = j
theorem sw_at (d : Nat → El) {n i j : Nat} (hi : i < n) (hj : j < n) (x : Nat) (hx : x < n) : ∃ y, y < n ∧ sw d i j x = d y ∧ ((x = i ∧ y = j) ∨ (x = j ∧ y = i) ∨ (x ≠ i ∧ x ≠ j ∧ y = x)) := by
  by_cases h1 : x = i
  · subst h1; exact ⟨j, hj, sw_l _ _ _, .inl ⟨rfl, rfl⟩⟩
  · by_cases h2 : x = j
    · subst h2; exact ⟨i, hi, sw_r _ _ _, .inr (.inl ⟨rfl, rfl⟩)⟩
    · exact ⟨x, hx, sw_o _ h1 h2, .inr (.inr ⟨h1, h2, rfl⟩)⟩
theorem Inj.sw {d : Nat → El} {n : Nat} (h : Inj d n) {i j : Nat} (hi : i < n) (hj : j < n) : Inj (sw d i j) n := by
  intro p q hp hq e
  obtain ⟨y, hy, e1, c1⟩ := sw_at d hi hj p hp
  obtain ⟨z, hz, e2, c2⟩ := sw_at d hi hj q hq
  rw [e1, e2] at e
  have := h y z hy hz e
  omega
/-- Only swapped, under n. -/
structure Sws (n : Nat) (a b : Nat → El) : Prop where
  out' : ∀ k : Nat, n ≤ k → b k = a k
  to' : ∀ i, i < n → ∃ j, j < n ∧ b i = a j
  from' : ∀ i, i < n → ∃ j, j < n ∧ b j = a i
  inj' : ∀ m, n ≤ m → Inj a m → Inj b m
theorem Sws.out {n : Nat} {a b : Nat → El} (h : Sws n a b) {k : Nat} (hk : n ≤ k) : b k = a k := h.out' k hk
theorem Sws.to {n : Nat} {a b : Nat → El} (h : Sws n a b) : ∀ i, i < n → ∃ j, j < n ∧ b i = a j := h.to'
theorem Sws.from {n : Nat} {a b : Nat → El} (h : Sws n a b) : ∀ i, i < n → ∃ j, j < n ∧ b j = a i := h.from'
theorem Sws.inj {n m : Nat} (hm : n ≤ m) {a b : Nat → El} (h : Sws n a b) (ha : Inj a m) : Inj b m := h.inj' m hm ha
theorem Sws.refl {n : Nat} (d : Nat → El) : Sws n d d := ⟨fun _ _ => rfl, fun i hi => ⟨i, hi, rfl⟩, fun i hi => ⟨i, hi, rfl⟩, fun _ _ h => h⟩
theorem Sws.trans {n : Nat} {a b c : Nat → El} (h : Sws n a b) (k : Sws n b c) : Sws n a c :=
  ⟨fun q hk => (k.out' q hk).trans (h.out' q hk), fun i hi => by
    obtain ⟨j, hj, e⟩ := k.to' i hi
    obtain ⟨l, hl, e2⟩ := h.to' j hj
    exact ⟨l, hl, e.trans e2⟩, fun i hi => by
    obtain ⟨j, hj, e⟩ := h.from' i hi
    obtain ⟨l, hl, e2⟩ := k.from' j hj
    exact ⟨l, hl, e2.trans e⟩, fun m hm hi => k.inj' m hm (h.inj' m hm hi)⟩
theorem Sws.one {n : Nat} (d : Nat → El) {i j : Nat} (hi : i < n) (hj : j < n) : Sws n d (sw d i j) :=
  ⟨fun _ hk => sw_o _ (by omega) (by omega), fun k hk => by
    obtain ⟨y, hy, e, _⟩ := sw_at d hi hj k hk
    exact ⟨y, hy, e⟩, fun k hk => by
    by_cases h1 : k = i
    · subst h1; exact ⟨j, hj, sw_r _ _ _⟩
    · by_cases h2 : k = j
      · subst h2; exact ⟨i, hi, sw_l _ _ _⟩
      · exact ⟨k, hk, sw_o _ h1 h2⟩, fun m hm h => h.sw (by omega) (by omega)⟩
theorem Sws.step {n : Nat} {d e : Nat → El} (i j : Nat) (h : Sws n d e) (hi : i < n) (hj : j < n) : Sws n d (Go.Proofs.Ytfakcjelibdnbaa.sw e i j) := h.trans (Sws.one e hi hj)
theorem Sws.mono {n m : Nat} (hm : n ≤ m) {a b : Nat → El} (h : Sws n a b) : Sws m a b :=
  ⟨fun _ hk => h.out (by omega), fun i hi => by
    by_cases g : i < n
    · obtain ⟨j, hj, e⟩ := h.to' i g
      exact ⟨j, by omega, e⟩
    · exact ⟨i, hi, h.out (by omega)⟩, fun i hi => by
    by_cases g : i < n
    · obtain ⟨j, hj, e⟩ := h.from' i g
      exact ⟨j, by omega, e⟩
    · exact ⟨i, hi, h.out (by omega)⟩, fun l hl => h.inj' l (by omega)⟩

/-- A heap; one that is right but at a place. -/
def Hp (d : Nat → El) (n : Nat) : Prop := ∀ k, 0 < k → k < n → (d ((k - 1) / 2)).Le (d k)
structure Ex (d : Nat → El) (i n : Nat) : Prop where
  far : ∀ k, 0 < k → k < n → k ≠ i → (k - 1) / 2 ≠ i → (d ((k - 1) / 2)).Le (d k)
  over : ∀ k, 0 < k → k < n → (k - 1) / 2 = i → 0 < i → (d ((i - 1) / 2)).Le (d k)
/-- All below stands right too. -/
def Kids (d : Nat → El) (i n : Nat) : Prop := ∀ k, 0 < k → k < n → (k - 1) / 2 = i → (d i).Le (d k)

theorem Hp.ex {d : Nat → El} {n : Nat} (h : Hp d n) (i : Nat) : Ex d i n :=
  ⟨fun k h0 hk _ _ => h k h0 hk, fun k h0 hk e hi => (h i hi (by omega)).trans (by have := h k h0 hk; rw [e] at this; exact this)⟩
theorem Hp.less {d : Nat → El} {n m : Nat} (h : Hp d n) (hm : m ≤ n) : Hp d m := fun k h0 hk => h k h0 (by omega)
/-- An element that is another: right but there. -/
theorem Hp.put {d e : Nat → El} {n i : Nat} (h : Hp d n) (he : ∀ k, k < n → k ≠ i → e k = d k) : Ex e i n :=
  ⟨fun k h0 hk h1 h2 => by rw [he k hk h1, he _ (by omega) h2]; exact h k h0 hk,
   fun k h0 hk h1 hi => by
    rw [he k hk (by omega), he _ (by omega) (by omega)]
    exact (h i hi (by omega)).trans (by have := h k h0 hk; rw [h1] at this; exact this)⟩
/-- One more behind all. -/
theorem Hp.push {d e : Nat → El} {n : Nat} (h : Hp d n) (he : ∀ k, k < n → e k = d k) : Ex e n (n + 1) ∧ Kids e n (n + 1) :=
  ⟨⟨fun k h0 hk h1 h2 => by rw [he k (by omega), he _ (by omega)]; exact h k h0 (by omega), fun k h0 hk h1 hi => by omega⟩, fun k h0 hk h1 => by omega⟩

theorem Ex.done {d : Nat → El} {i n : Nat} (h : Ex d i n) (hk : Kids d i n) (hi : i = 0 ∨ ¬ (d i).Lt (d ((i - 1) / 2))) : Hp d n := by
  intro k h0 hn
  by_cases h1 : k = i
  · subst h1
    exact El.not_lt (hi.resolve_left (by omega))
  · by_cases h2 : (k - 1) / 2 = i
    · rw [h2]; exact hk k h0 hn h2
    · exact h.far k h0 hn h1 h2

theorem Ex.up {d : Nat → El} {j n : Nat} (h : Ex d j n) (hj : 0 < j) (hn : j < n) (hl : (d j).Lt (d ((j - 1) / 2))) :
    Ex (sw d ((j - 1) / 2) j) ((j - 1) / 2) n ∧ Kids (sw d ((j - 1) / 2) j) ((j - 1) / 2) n := by
  generalize hp : (j - 1) / 2 = p at *
  have hpj : p < j := by omega
  refine ⟨⟨fun k h0 hk1 h1 h2 => ?_, fun k h0 hk1 h1 h2 => ?_⟩, fun k h0 hk1 h1 => ?_⟩
  · -- k is not p, its parent is not p
    by_cases h3 : k = j
    · omega
    · rw [sw_o d h1 h3]
      by_cases h4 : (k - 1) / 2 = j
      · rw [h4, sw_r]
        exact hp ▸ h.over k h0 hk1 h4 hj
      · rw [sw_o d h2 h4]; exact h.far k h0 hk1 h3 h4
  · have hpp : (p - 1) / 2 < p := by omega
    rw [sw_o d (i := p) (j := j) (k := (p - 1) / 2) (by omega) (by omega)]
    have hq := h.far p h2 (by omega) (by omega) (by omega)
    by_cases h3 : k = j
    · rw [h3, sw_r]; exact hq
    · rw [sw_o d (by omega) h3]
      have := h.far k h0 hk1 h3 (by omega)
      rw [h1] at this
      exact hq.trans this
  · rw [sw_l]
    by_cases h3 : k = j
    · rw [h3, sw_r]; exact hl.le
    · rw [sw_o d (by omega) h3]
      have := h.far k h0 hk1 h3 (by omega)
      rw [h1] at this
      exact hl.le.trans this

/-- The least child. -/
def kid (d : Nat → El) (i n : Nat) : Nat := if 2 * i + 2 < n ∧ (d (2 * i + 2)).Lt (d (2 * i + 1)) then 2 * i + 2 else 2 * i + 1
theorem kid_is (d : Nat → El) {i n : Nat} (h : 2 * i + 1 < n) : kid d i n < n ∧ (kid d i n - 1) / 2 = i ∧ i < kid d i n := by
  unfold kid; split <;> omega
theorem kid_le (d : Nat → El) {i n k : Nat} (h0 : 0 < k) (hk : k < n) (hp : (k - 1) / 2 = i) : (d (kid d i n)).Le (d k) := by
  unfold kid
  split
  · rename_i c
    by_cases h : k = 2 * i + 2
    · subst h; exact .refl _
    · have : k = 2 * i + 1 := by omega
      subst this; exact c.2.le
  · rename_i c
    by_cases h : k = 2 * i + 2
    · subst h
      exact El.not_lt fun g => c ⟨hk, g⟩
    · have : k = 2 * i + 1 := by omega
      subst this; exact .refl _

theorem Kids.none {d : Nat → El} {i n : Nat} (h : n ≤ 2 * i + 1) : Kids d i n := fun k h0 hk h1 => by omega
theorem Kids.of {d : Nat → El} {i n : Nat} (h : ¬ (d (kid d i n)).Lt (d i)) : Kids d i n := fun _ h0 hk h1 => (El.not_lt h).trans (kid_le d h0 hk h1)

/-- A step down; behind it the place's parent comes first. -/
theorem Ex.down {d : Nat → El} {i n : Nat} (h : Ex d i n) (hn : 2 * i + 1 < n) (hl : (d (kid d i n)).Lt (d i)) :
    Ex (sw d i (kid d i n)) (kid d i n) n ∧ ¬ (sw d i (kid d i n) (kid d i n)).Lt (sw d i (kid d i n) ((kid d i n - 1) / 2)) := by
  obtain ⟨k1, k2, k3⟩ := kid_is d hn
  have kl : ∀ k, 0 < k → k < n → (k - 1) / 2 = i → (d (kid d i n)).Le (d k) := fun k h0 hk hp => kid_le d h0 hk hp
  generalize kid d i n = j at *
  refine ⟨⟨fun k h0 hk h1 h2 => ?_, fun k h0 hk h1 h2 => ?_⟩, ?_⟩
  · by_cases h3 : k = i
    · subst h3
      rw [sw_l, sw_o d (i := k) (j := j) (k := (k - 1) / 2) (by omega) h2]
      exact h.over j (by omega) k1 k2 h0
    · rw [sw_o d h3 h1]
      by_cases h4 : (k - 1) / 2 = i
      · rw [h4, sw_l]; exact kl k h0 hk h4
      · rw [sw_o d h4 h2]; exact h.far k h0 hk h3 h4
  · rw [k2, sw_l, sw_o d (by omega) (by omega)]
    have := h.far k h0 hk (by omega) (by omega)
    rw [h1] at this; exact this
  · rw [k2, sw_l, sw_r]
    exact hl.le.not

/-- The first one comes ahead of all. -/
theorem Hp.top {d : Nat → El} {n : Nat} (h : Hp d n) : ∀ k, k < n → (d 0).Le (d k) := by
  intro k
  induction k using Nat.strongRecOn with
  | ind k ih =>
    intro hk
    by_cases h0 : k = 0
    · subst h0; exact .refl _
    · exact (ih ((k - 1) / 2) (by omega) (by omega)).trans (h k (by omega) hk)

end Go.Proofs.Ytfakcjelibdnbaa
