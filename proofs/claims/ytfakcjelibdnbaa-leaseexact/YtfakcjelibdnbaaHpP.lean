/- lease: the leases in the order in which they were set; which one is first; what is due. -/
import Derived.Test.YtfakcjelibdnbaaHpA
namespace Go.Proofs.Ytfakcjelibdnbaa

/-- Keys and ends, as they were set. -/
abbrev Le := List (ByteArray × Nat)
def drp (L : Le) (k : ByteArray) : Le := L.filter fun p => decide (p.1 ≠ k)
def sets (L : Le) (k : ByteArray) (e : Nat) : Le := drp L k ++ [(k, e)]
def lk (L : Le) (k : ByteArray) : Option Nat := (L.find? fun p => decide (p.1 = k)).map (·.2)
/-- The first one. -/
def fstL : Le → Option (ByteArray × Nat)
  | [] => none
  | p :: L => match fstL L with
    | none => some p
    | some r => if Fl.sr r.2 < Fl.sr p.2 then some r else some p
/-- Those that have ended, one behind the other, and those that are left. -/
def dueN : Nat → Le → Nat → List ByteArray × Le
  | 0, L, _ => ([], L)
  | f + 1, L, now => match fstL L with
    | none => ([], L)
    | some p => if fle p.2 now then (p.1 :: (dueN f (drp L p.1) now).1, (dueN f (drp L p.1) now).2) else ([], L)
def due (L : Le) (now : Nat) : List ByteArray × Le := dueN L.length L now

theorem fstL_mem : ∀ {L : Le} {p : ByteArray × Nat}, fstL L = some p → p ∈ L
  | [], _, h => by cases h
  | x :: L, p, h => by
    unfold fstL at h
    cases hr : fstL L with
    | none => rw [hr] at h; cases h; exact List.mem_cons_self
    | some r =>
      rw [hr] at h
      simp only at h
      split at h
      · cases h; exact List.mem_cons_of_mem _ (fstL_mem hr)
      · cases h; exact List.mem_cons_self
theorem fstL_none {L : Le} (h : fstL L = none) : L = [] := by
  cases L with
  | nil => rfl
  | cons x L =>
    unfold fstL at h
    cases hr : fstL L with
    | none => rw [hr] at h; cases h
    | some r =>
      rw [hr] at h
      simp only at h
      split at h <;> cases h

def Nk (L : Le) : Prop := (L.map (·.1)).Nodup
theorem Nk.drp {L : Le} (h : Nk L) (k : ByteArray) : Nk (drp L k) := by
  unfold Nk Go.Proofs.Ytfakcjelibdnbaa.drp
  exact List.Nodup.sublist (List.Sublist.map _ List.filter_sublist) h
theorem drp_keys {L : Le} {k : ByteArray} {p : ByteArray × Nat} : p ∈ drp L k ↔ p ∈ L ∧ p.1 ≠ k := by
  unfold drp; rw [List.mem_filter]; simp
theorem drp_none {L : Le} {k : ByteArray} (h : ∀ p ∈ L, p.1 ≠ k) : drp L k = L := by
  unfold drp
  rw [List.filter_eq_self]
  intro p hp
  simp [h p hp]
theorem drp_len : ∀ {L : Le} {p : ByteArray × Nat}, Nk L → p ∈ L → (drp L p.1).length + 1 = L.length
  | [], _, _, h => by cases h
  | x :: L, p, hn, h => by
    have hn' : Nk L := (List.nodup_cons.1 hn).2
    have hx : x.1 ∉ L.map (·.1) := (List.nodup_cons.1 hn).1
    rcases List.mem_cons.1 h with e | h
    · subst e
      have : drp (p :: L) p.1 = L := by
        have e1 : drp (p :: L) p.1 = drp L p.1 := by unfold drp; simp
        rw [e1]
        exact drp_none fun r hr e => hx (List.mem_map.2 ⟨r, hr, e⟩)
      rw [this]; rfl
    · have hne : x.1 ≠ p.1 := fun e => hx (List.mem_map.2 ⟨p, h, e.symm⟩)
      have : drp (x :: L) p.1 = x :: drp L p.1 := by unfold drp; simp [hne]
      rw [this]
      have := drp_len hn' h
      simp only [List.length_cons]
      omega
theorem lk_mem {L : Le} (hn : Nk L) {p : ByteArray × Nat} (h : p ∈ L) : lk L p.1 = some p.2 := by
  unfold lk
  induction L with
  | nil => cases h
  | cons x L ih =>
    have hx : x.1 ∉ L.map (·.1) := (List.nodup_cons.1 hn).1
    rcases List.mem_cons.1 h with e | h
    · subst e; simp
    · have hne : x.1 ≠ p.1 := fun e => hx (List.mem_map.2 ⟨p, h, e.symm⟩)
      rw [List.find?_cons_of_neg (by simp [hne])]
      exact ih (List.nodup_cons.1 hn).2 h
theorem lk_none {L : Le} {k : ByteArray} (h : ∀ p ∈ L, p.1 ≠ k) : lk L k = none := by
  unfold lk
  rw [List.find?_eq_none.2]
  · rfl
  · intro p hp; simp [h p hp]
theorem lk_drp (L : Le) (k : ByteArray) : lk (drp L k) k = none := lk_none fun _ hp => (drp_keys.1 hp).2

/-! ### The leases in the row -/
def abs (E : List El) : Le := E.map fun a => (a.k, a.e)
structure Lv (d : Nat → El) (n tn : Nat) (E : List El) : Prop where
  mem : ∀ a, a ∈ E ↔ ∃ i, i < n ∧ d i = a
  len : E.length = n
  srt : E.Pairwise fun a b => a.t < b.t
  tmx : ∀ a ∈ E, a.t ≤ tn
  kys : (E.map (·.k)).Nodup
  sm : ∀ a ∈ E, a.k.size ≤ 1000000
  ntn : n ≤ tn

theorem abs_keys (E : List El) : (abs E).map (·.1) = E.map (·.k) := by unfold abs; rw [List.map_map]; rfl
theorem Lv.nk {d : Nat → El} {n tn : Nat} {E : List El} (h : Lv d n tn E) : Nk (abs E) := by unfold Nk; rw [abs_keys]; exact h.kys
theorem abs_len (E : List El) : (abs E).length = E.length := by simp [abs]

theorem Lv.sws {d d' : Nat → El} {n tn : Nat} {E : List El} (h : Lv d n tn E) (hs : Sws n d d') : Lv d' n tn E :=
  ⟨fun a => (h.mem a).trans ⟨fun ⟨i, hi, e⟩ => by obtain ⟨j, hj, e2⟩ := hs.from i hi; exact ⟨j, hj, e2.trans e⟩, fun ⟨i, hi, e⟩ => by obtain ⟨j, hj, e2⟩ := hs.to i hi; exact ⟨j, hj, e2.symm.trans e⟩⟩,
   h.len, h.srt, h.tmx, h.kys, h.sm, h.ntn⟩

/-- Those of other keys. -/
def oth (E : List El) (k : ByteArray) : List El := E.filter fun a => decide (a.k ≠ k)
theorem abs_oth (E : List El) (k : ByteArray) : abs (oth E k) = drp (abs E) k := by
  unfold abs oth drp
  rw [List.filter_map]
  rfl
theorem mem_oth {E : List El} {k : ByteArray} {a : El} : a ∈ oth E k ↔ a ∈ E ∧ a.k ≠ k := by unfold oth; rw [List.mem_filter]; simp
theorem key_inj : ∀ {E : List El}, (E.map (·.k)).Nodup → ∀ {a b : El}, a ∈ E → b ∈ E → a.k = b.k → a = b
  | [], _, _, _, h, _, _ => by cases h
  | x :: E, hn, a, b, ha, hb, e => by
    have hx : x.k ∉ E.map (·.k) := (List.nodup_cons.1 hn).1
    rcases List.mem_cons.1 ha with e1 | ha' <;> rcases List.mem_cons.1 hb with e2 | hb'
    · rw [e1, e2]
    · subst e1; exact absurd (List.mem_map.2 ⟨b, hb', e.symm⟩) hx
    · subst e2; exact absurd (List.mem_map.2 ⟨a, ha', e⟩) hx
    · exact key_inj (List.nodup_cons.1 hn).2 ha' hb' e

/-- The one behind all goes. -/
theorem Lv.rem {d : Nat → El} {n tn : Nat} {E : List El} (h : Lv d (n + 1) tn E) (hj : Inj d (n + 1)) : Lv d n tn (oth E (d n).k) := by
  have hm : d n ∈ E := (h.mem _).2 ⟨n, by omega, rfl⟩
  refine ⟨fun a => ?_, ?_, h.srt.sublist List.filter_sublist, fun a ha => h.tmx a (mem_oth.1 ha).1, List.Nodup.sublist (List.Sublist.map _ List.filter_sublist) h.kys, fun a ha => h.sm a (mem_oth.1 ha).1, by have := h.ntn; omega⟩
  · rw [mem_oth]
    constructor
    · rintro ⟨h1, h2⟩
      obtain ⟨i, hi, e⟩ := (h.mem a).1 h1
      refine ⟨i, ?_, e⟩
      by_cases g : i = n
      · subst g; subst e; exact absurd rfl h2
      · omega
    · rintro ⟨i, hi, e⟩
      have h1 := (h.mem a).2 ⟨i, by omega, e⟩
      refine ⟨h1, fun g => ?_⟩
      have e2 := key_inj h.kys h1 hm g
      have := hj i n (by omega) (by omega) (by rw [e, e2])
      omega
  · have h1 := drp_len h.nk (p := ((d n).k, (d n).e)) (List.mem_map.2 ⟨d n, hm, rfl⟩)
    rw [← abs_oth, abs_len, abs_len, h.len] at h1
    exact Nat.succ.inj h1
/-- One more. -/
theorem Lv.push {d d' : Nat → El} {n tn : Nat} {E : List El} (h : Lv d n tn E) {a : El} (ha : a.t = tn + 1) (hk : ∀ x ∈ E, x.k ≠ a.k) (hs : a.k.size ≤ 1000000) (hd : ∀ i, i < n → d' i = d i) (hn : d' n = a) : Lv d' (n + 1) (tn + 1) (E ++ [a]) := by
  refine ⟨fun b => ?_, by rw [List.length_append, h.len]; rfl, ?_, fun b hb => ?_, ?_, fun b hb => ?_, by have := h.ntn; omega⟩
  · rw [List.mem_append, List.mem_singleton]
    constructor
    · rintro (h1 | h1)
      · obtain ⟨i, hi, e⟩ := (h.mem b).1 h1
        exact ⟨i, by omega, by rw [hd i hi]; exact e⟩
      · exact ⟨n, by omega, by rw [hn, h1]⟩
    · rintro ⟨i, hi, e⟩
      by_cases g : i = n
      · subst g; right; rw [← e, hn]
      · left; exact (h.mem b).2 ⟨i, by omega, by rw [← hd i (by omega)]; exact e⟩
  · rw [List.pairwise_append]
    refine ⟨h.srt, List.pairwise_singleton _ _, fun x hx y hy => ?_⟩
    rw [List.mem_singleton.1 hy, ha]
    have := h.tmx x hx
    omega
  · rcases List.mem_append.1 hb with g | g
    · have := h.tmx b g; omega
    · rw [List.mem_singleton.1 g]; omega
  · rw [List.map_append, List.map_singleton, List.nodup_append]
    refine ⟨h.kys, List.nodup_cons.2 ⟨List.not_mem_nil, List.nodup_nil⟩, fun x hx y hy e => ?_⟩
    obtain ⟨z, hz, e2⟩ := List.mem_map.1 hx
    rw [List.mem_singleton.1 hy] at e
    exact hk z hz (e2.trans e)
  · rcases List.mem_append.1 hb with g | g
    · exact h.sm b g
    · rw [List.mem_singleton.1 g]; exact hs
/-- One is set anew. -/
theorem Lv.put {d d' : Nat → El} {n tn i : Nat} {E : List El} (h : Lv d n tn E) (hj : Inj d n) (hi : i < n) {a : El} (ha : a.t = tn + 1) (hk : a.k = (d i).k) (hd : ∀ j, j < n → j ≠ i → d' j = d j) (hn : d' i = a) : Lv d' n (tn + 1) (oth E a.k ++ [a]) := by
  have hm : d i ∈ E := (h.mem _).2 ⟨i, hi, rfl⟩
  have hle : (oth E a.k).length + 1 = n := by
    have h1 := drp_len h.nk (p := ((d i).k, (d i).e)) (List.mem_map.2 ⟨d i, hm, rfl⟩)
    rw [← abs_oth, abs_len, abs_len, h.len] at h1
    rw [hk]; exact h1
  refine ⟨fun b => ?_, by rw [List.length_append]; exact hle, ?_, fun b hb => ?_, ?_, fun b hb => ?_, by have := h.ntn; omega⟩
  · rw [List.mem_append, List.mem_singleton, mem_oth]
    constructor
    · rintro (⟨h1, h2⟩ | h1)
      · obtain ⟨j, hj2, e⟩ := (h.mem b).1 h1
        have g : j ≠ i := fun g => h2 (by rw [← e, g, hk])
        exact ⟨j, hj2, by rw [hd j hj2 g]; exact e⟩
      · exact ⟨i, hi, by rw [hn, h1]⟩
    · rintro ⟨j, hj2, e⟩
      by_cases g : j = i
      · subst g; right; rw [← e, hn]
      · left
        rw [hd j hj2 g] at e
        have h1 := (h.mem b).2 ⟨j, hj2, e⟩
        refine ⟨h1, fun g2 => g ?_⟩
        have e2 := key_inj h.kys h1 hm (g2.trans hk)
        exact hj j i hj2 hi (by rw [e, e2])
  · rw [List.pairwise_append]
    refine ⟨h.srt.sublist List.filter_sublist, List.pairwise_singleton _ _, fun x hx y hy => ?_⟩
    rw [List.mem_singleton.1 hy, ha]
    have := h.tmx x (mem_oth.1 hx).1
    omega
  · rcases List.mem_append.1 hb with g | g
    · have := h.tmx b (mem_oth.1 g).1; omega
    · rw [List.mem_singleton.1 g]; omega
  · rw [List.map_append, List.map_singleton, List.nodup_append]
    refine ⟨List.Nodup.sublist (List.Sublist.map _ List.filter_sublist) h.kys, List.nodup_cons.2 ⟨List.not_mem_nil, List.nodup_nil⟩, fun x hx y hy e => ?_⟩
    obtain ⟨z, hz, e2⟩ := List.mem_map.1 hx
    rw [List.mem_singleton.1 hy] at e
    exact (mem_oth.1 hz).2 (e2.trans e)
  · rcases List.mem_append.1 hb with g | g
    · exact h.sm b (mem_oth.1 g).1
    · rw [List.mem_singleton.1 g, hk]; exact h.sm _ hm

theorem fst_of : ∀ {E : List El} {a : El}, E.Pairwise (fun a b => a.t < b.t) → a ∈ E → (∀ b ∈ E, a.Le b) → fstL (abs E) = some (a.k, a.e)
  | [], _, _, h, _ => by cases h
  | x :: E, a, hp, ha, hl => by
    have hp' := (List.pairwise_cons.1 hp)
    show (match fstL (abs E) with | none => some (x.k, x.e) | some r => if Fl.sr r.2 < Fl.sr x.e then some r else some (x.k, x.e)) = _
    rcases List.mem_cons.1 ha with e | h
    · subst e
      cases hr : fstL (abs E) with
      | none => rfl
      | some r =>
        obtain ⟨y, hy, e⟩ := List.mem_map.1 (fstL_mem hr)
        have := hl y (List.mem_cons_of_mem _ hy)
        have e2 : r.2 = y.e := by rw [← e]
        simp only [e2]
        unfold El.Le El.x at this
        rw [if_neg (by omega)]
    · rw [fst_of hp'.2 h (fun b hb => hl b (List.mem_cons_of_mem _ hb))]
      have h1 := hl x List.mem_cons_self
      have h2 := hp'.1 a h
      unfold El.Le El.x at h1
      simp only
      rw [if_pos (by omega)]
theorem Lv.top {d : Nat → El} {n tn : Nat} {E : List El} (h : Lv d n tn E) (hp : Hp d n) (hn : 0 < n) : fstL (abs E) = some ((d 0).k, (d 0).e) := by
  refine fst_of h.srt ((h.mem _).2 ⟨0, hn, rfl⟩) (fun b hb => ?_)
  obtain ⟨i, hi, e⟩ := (h.mem b).1 hb
  rw [← e]
  exact hp.top i hi

/-- The map's word. -/
def mOf (E : List El) (s : ByteArray) : Option Nat := (E.find? fun a => decide (a.k = s)).map (·.b)
theorem mOf_some : ∀ {E : List El}, (E.map (·.k)).Nodup → ∀ {a : El}, a ∈ E → mOf E a.k = some a.b := by
  intro E hn a ha
  unfold mOf
  cases hf : E.find? fun x => decide (x.k = a.k) with
  | none => have := List.find?_eq_none.1 hf a ha; simp at this
  | some x =>
    have h1 := List.mem_of_find?_eq_some hf
    have h2 := List.find?_some hf
    rw [key_inj hn h1 ha (by simpa using h2)]; rfl
theorem mOf_none {E : List El} {s : ByteArray} (h : ∀ a ∈ E, a.k ≠ s) : mOf E s = none := by
  unfold mOf
  rw [List.find?_eq_none.2]
  · rfl
  · intro a ha; simp [h a ha]
theorem mOf_inv {E : List El} {s : ByteArray} {b : Nat} (h : mOf E s = some b) : ∃ a ∈ E, a.k = s ∧ a.b = b := by
  unfold mOf at h
  cases hf : E.find? fun x => decide (x.k = s) with
  | none => rw [hf] at h; cases h
  | some x =>
    rw [hf] at h
    exact ⟨x, List.mem_of_find?_eq_some hf, by simpa using List.find?_some hf, Option.some.inj h⟩
theorem mOf_isSome {E : List El} {s : ByteArray} : (mOf E s).isSome = true ↔ s ∈ E.map (·.k) := by
  constructor
  · intro h
    obtain ⟨b, hb⟩ := Option.isSome_iff_exists.1 h
    obtain ⟨a, ha, e, _⟩ := mOf_inv hb
    exact List.mem_map.2 ⟨a, ha, e⟩
  · intro h
    cases hm : mOf E s with
    | some b => rfl
    | none =>
      obtain ⟨a, ha, e⟩ := List.mem_map.1 h
      unfold mOf at hm
      rw [Option.map_eq_none_iff, List.find?_eq_none] at hm
      have := hm a ha
      simp [e] at this
theorem lk_abs {E : List El} (hn : (E.map (·.k)).Nodup) {a : El} (ha : a ∈ E) : lk (abs E) a.k = some a.e := by
  refine lk_mem (p := (a.k, a.e)) ?_ (List.mem_map.2 ⟨a, ha, rfl⟩)
  unfold Nk; rw [abs_keys]; exact hn

end Go.Proofs.Ytfakcjelibdnbaa
