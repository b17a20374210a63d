/- A disk in memory, against a disk as the document tells it. -/
import Derived.Test.YtikkieaokfailaaGreatDoorDkQ
namespace Go.Proofs.YtikkieaokfailaaGreatDoor
open Go.RowKit Go.Joins

def rawK (k : Dk) : Raw := ⟨k.room, used k.fs, k.steps, k.off, k.fu.isSome, ((k.fu.getD 0 : Nat) : Int)⟩

/-- A file in the map is the file that the document tells of. -/
def Tie (w : World) (F : Nat → Prop) : Option FV → Option Fle → Prop
  | none, none => True
  | some c, some f => c.2.2.2 = (f.safe : Int) ∧ c.2.1 = f.b.length ∧ w.ownsRow 0 5 1 (slv c) f.b.length (bc f.b) ∧ (∀ g, c.1 = some g → F g)
  | _, _ => False
def Apart (m : Nm → Option FV) : Prop := ∀ s t c e g, s ≠ t → m s = some c → m t = some e → c.1 = some g → e.1 ≠ some g

theorem slv_own (c : FV) : (slv c).ownBlock = c.1 := by
  obtain ⟨a, n, p, s⟩ := c
  cases a <;> rfl
theorem Tie.some' {w : World} {F : Nat → Prop} {o : Option FV} {f : Fle} (h : Tie w F o (some f)) : ∃ c, o = some c ∧ c.2.2.2 = (f.safe : Int) ∧ c.2.1 = f.b.length ∧ w.ownsRow 0 5 1 (slv c) f.b.length (bc f.b) ∧ (∀ g, c.1 = some g → F g) := by
  cases o with
  | none => exact h.elim
  | some c => exact ⟨c, rfl, h⟩
theorem Tie.none' {w : World} {F : Nat → Prop} {o : Option FV} (h : Tie w F o none) : o = none := by
  cases o with
  | none => rfl
  | some c => exact h.elim
theorem Tie.isSome {w : World} {F : Nat → Prop} {o : Option FV} {f : Option Fle} (h : Tie w F o f) : o.isSome = f.isSome := by
  cases o <;> cases f <;> first | rfl | exact h.elim
theorem Tie.len {w : World} {F : Nat → Prop} {o : Option FV} {f : Option Fle} (h : Tie w F o f) : (o.getD fv0).2.1 = lenO f := by
  cases o <;> cases f
  · rfl
  · exact h.elim
  · exact h.elim
  · exact h.2.1
theorem Tie.keep {S : Nat → Prop} {w w' : World} {F G : Nat → Prop} {o : Option FV} {f : Option Fle} (h : Tie w F o f) (hk : Keep S w w') (hs : ∀ c g, o = some c → c.1 = some g → ¬ S g) (hG : ∀ i, F i → G i) : Tie w' G o f := by
  cases o <;> cases f
  · trivial
  · exact h.elim
  · exact h.elim
  · rename_i c f
    obtain ⟨h1, h2, h3, h4⟩ := h
    exact ⟨h1, h2, own_keep h3 hk (fun g hg => hs c g rfl (by rw [← slv_own]; exact hg)), fun g hg => hG g (h4 g hg)⟩
/-- The row of a file lies in a block of bytes. -/
theorem Tie.blk {w : World} {F : Nat → Prop} {c : FV} {f : Option Fle} (h : Tie w F (some c) f) {g : Nat} (hg : c.1 = some g) : ∃ cur, w.heap[g]? = some (.cells cur 5 (0, 0)) := by
  cases f with
  | none => exact h.elim
  | some f =>
    rcases h.2.2.1.2 with ⟨hv, _⟩ | ⟨g', cap, cur, hv, _, hb, _⟩
    · have := slv_own c; rw [hv, hg] at this; cases this
    · have := slv_own c
      rw [hv, hg] at this
      have e : g' = g := by simpa [Value.ownBlock] using this
      subst e
      exact ⟨cur, hb⟩

structure DiskAt (w : World) (F : Nat → Prop) (d : Nat) (k : Dk) : Prop where
  ex : ∃ bm m, DR w d bm k.fs.length (rawK k) m ∧ F bm ∧ (∀ s, Tie w F (m s) (look k.fs s)) ∧ Apart m
  fd : F d
  lt : ∀ i, F i → i < w.heap.size
  good : k.Good

theorem DiskAt.of {w : World} {F : Nat → Prop} {d bm n : Nat} {k : Dk} {m : Nm → Option FV} (hD : DR w d bm n (rawK k) m) (hbm : F bm) (ht : ∀ s, Tie w F (m s) (look k.fs s)) (ha : Apart m) (fd : F d) (lt : ∀ i, F i → i < w.heap.size) (hg : k.Good) : DiskAt w F d k := by
  refine ⟨⟨bm, m, ⟨hD.blk, ?_⟩, hbm, ht, ha⟩, fd, lt, hg⟩
  have := hD.map.tight (k.fs.map Prod.fst) (rise_nodup hg.rise) (fun s => by rw [(ht s).isSome, look_isSome])
  rw [List.length_map] at this
  exact this

theorem DiskAt.keep {S : Nat → Prop} {w w' : World} {F : Nat → Prop} {d : Nat} {k : Dk} (h : DiskAt w F d k) (hk : Keep S w w') (hs : ∀ i, F i → ¬ S i) : DiskAt w' F d k := by
  obtain ⟨⟨bm, m, hD, hbm, ht, ha⟩, fd, lt, hg⟩ := h
  refine ⟨⟨bm, m, hD.keep hk (hs d fd) (hs bm hbm), hbm, fun s => ?_, ha⟩, fd, fun i hi => Nat.lt_of_lt_of_le (lt i hi) hk.size, hg⟩
  refine (ht s).keep hk (fun c g hc hcg => ?_) (fun _ h => h)
  have h1 := ht s
  rw [hc] at h1
  cases hf : look k.fs s with
  | none => rw [hf] at h1; exact h1.elim
  | some f => rw [hf] at h1; exact hs g (h1.2.2.2 g hcg)
theorem DiskAt.below {w w' : World} {F : Nat → Prop} {d : Nat} {k : Dk} (h : DiskAt w F d k) (hb : Below w.heap.size w w') : DiskAt w' F d k := h.keep (S := fun _ => False) (Keep.ofBelow hb) (fun _ _ h => h)

/-- What a call leaves: the disk as it is to be; nothing else is turned. -/
def Dp (w : World) (F : Nat → Prop) (d : Nat) (k' : Dk) (w' : World) : Prop := ∃ F', DiskAt w' F' d k' ∧ Keep F w w' ∧ (∀ i, F' i → F i ∨ w.heap.size ≤ i)
theorem Dp.refl {w : World} {F : Nat → Prop} {d : Nat} {k : Dk} (h : DiskAt w F d k) : Dp w F d k w := ⟨F, h, Keep.refl _ _, fun _ h => Or.inl h⟩
theorem Dp.ofBelow {w w' : World} {F : Nat → Prop} {d : Nat} {k : Dk} (h : DiskAt w F d k) (hb : Below w.heap.size w w') : Dp w F d k w' := ⟨F, h.below hb, Keep.ofBelow hb, fun _ h => Or.inl h⟩
theorem Dp.from {w0 w w' : World} {F : Nat → Prop} {d : Nat} {k' : Dk} (hb : Below w0.heap.size w0 w) (h : Dp w F d k' w') : Dp w0 F d k' w' := by
  obtain ⟨F', h1, h2, h3⟩ := h
  exact ⟨F', h1, (Keep.ofBelow hb).trans h2, fun i hi => (h3 i hi).imp id (fun h => Nat.le_trans hb.size h)⟩
/-- The error's cell is written behind it. -/
theorem Dp.err {w0 w1 : World} {o : Obj} {F : Nat → Prop} {d : Nat} {k' : Dk} (h : Dp (w0.alloc o) F d k' w1) (hF : ∀ i, F i → i < w0.heap.size) (v : Value) : Dp w0 F d k' (w1.setCell ⟨w0.heap.size, 0, none⟩ v) := by
  obtain ⟨F', h1, h2, h3⟩ := h
  have hs : (w0.alloc o).heap.size = w0.heap.size + 1 := by simp
  refine ⟨F', h1.keep ((Keep.refl (fun k => k = w0.heap.size) w1).setCell (p := ⟨w0.heap.size, 0, none⟩) rfl v) (fun i hi e => ?_), (((Keep.refl F w0).alloc o).trans h2).setNew (Nat.le_refl _) v, fun i hi => (h3 i hi).imp id (fun h => by omega)⟩
  rcases h3 i hi with h | h
  · have := hF i h; omega
  · omega

/-- The call's own variables, boxed: blocks that the disk has not. -/
theorem box_keep {S : Nat → Prop} {w w' : World} {b : Nat} {o : Obj} (h : w.heap[b]? = some o) (hk : Keep S w w') (hs : ¬ S b) : w'.heap[b]? = some o := (hk.block b (Array.getElem?_eq_some_iff.1 h).1 hs).trans h
theorem box_below {w w' : World} {b : Nat} {o : Obj} (h : w.heap[b]? = some o) (hk : Below w.heap.size w w') : w'.heap[b]? = some o := (hk.block b (Array.getElem?_eq_some_iff.1 h).1).trans h
theorem box_cell {w : World} {b : Nat} {v : Value} {t : TypeId} (h : w.heap[b]? = some (.cells #[v] t (0, 0))) : w.cell? ⟨b, 0, none⟩ = some v := by simp [World.cell?, h]

theorem look_good {k : Dk} (hg : k.Good) {s : Nm} {f : Fle} (h : look k.fs s = some f) : isNm s = true ∧ f.safe ≤ f.b.length ∧ Bd f.b := hg.each _ (look_mem h)

/-- The row of a file of the disk: it is no other one's. -/
theorem row_own {w : World} {F : Nat → Prop} {k : Dk} {m : Nm → Option FV} (ht : ∀ t, Tie w F (m t) (look k.fs t)) (ha : Apart m) {s : Nm} {c : FV} {g : Nat} (hm : m s = some c) (hg : c.1 = some g) : F g ∧ ∀ t e, t ≠ s → m t = some e → e.1 ≠ some g := by
  have h1 := ht s
  rw [hm] at h1
  refine ⟨?_, fun t e hts he h => ha s t c e g (fun e => hts e.symm) hm he hg h⟩
  cases hf : look k.fs s with
  | none => rw [hf] at h1; exact h1.elim
  | some f => rw [hf] at h1; exact h1.2.2.2 g hg
/-- A new row is nobody's. -/
theorem row_new {w : World} {F : Nat → Prop} {k : Dk} {m : Nm → Option FV} (ht : ∀ t, Tie w F (m t) (look k.fs t)) (lt : ∀ i, F i → i < w.heap.size) {g : Nat} (hg : w.heap.size ≤ g) : ∀ t e, m t = some e → e.1 ≠ some g := fun t e he h => by
  have h1 := ht t
  rw [he] at h1
  cases hf : look k.fs t with
  | none => rw [hf] at h1; exact h1.elim
  | some f => rw [hf] at h1; have := lt g (h1.2.2.2 g h); omega

/-- A file is put: what it leaves. -/
theorem DiskAt.put {w w1 w' : World} {F S : Nat → Prop} {d bm n : Nat} {k k1 : Dk} {m : Nm → Option FV} {s : Nm} {c : FV} {f : Fle}
    (hbm : F bm) (ht : ∀ t, Tie w F (m t) (look k.fs t)) (ha : Apart m) (fd : F d) (lt : ∀ i, F i → i < w.heap.size)
    (hbl : w.heap[d]? = some (.cells (rcs (rawK k) bm) 101 (0, 0))) (hmp : FMap w bm k.fs.length m)
    (hk : Keep S w w1) (hS : ∀ i, S i → (∃ c0, m s = some c0 ∧ c0.1 = some i)) (hk1 : Keep (fun i => i = d ∨ i = bm) w1 w')
    (hD : DR w' d bm n (rawK k1) (mputF m s (some c))) (hk1fs : k1.fs = putL k.fs s f) (hr : Rise k.fs) (hg : k1.Good)
    (hc1 : c.2.2.2 = (f.safe : Int)) (hc2 : c.2.1 = f.b.length) (hc3 : w'.ownsRow 0 5 1 (slv c) f.b.length (bc f.b))
    (hc4 : ∀ g, c.1 = some g → (F g ∨ (w.heap.size ≤ g ∧ g < w'.heap.size)) ∧ ∀ t e, t ≠ s → m t = some e → e.1 ≠ some g) : Dp w F d k1 w' := by
  have hsz : w.heap.size ≤ w'.heap.size := Nat.le_trans hk.size hk1.size
  have hold : ∀ t e g, m t = some e → e.1 = some g → F g ∧ g ≠ d ∧ g ≠ bm ∧ g < w.heap.size := fun t e g he hg => by
    have h1 := ht t
    rw [he] at h1
    obtain ⟨cur, hb⟩ := h1.blk hg
    have hF : F g := by
      cases hf : look k.fs t with
      | none => rw [hf] at h1; exact h1.elim
      | some f => rw [hf] at h1; exact h1.2.2.2 g hg
    refine ⟨hF, fun e => ?_, fun e => ?_, lt g hF⟩
    · subst e; rw [hbl] at hb; cases hb
    · subst e; exact hmp.notCells hb rfl
  refine ⟨fun i => F i ∨ (w.heap.size ≤ i ∧ i < w'.heap.size), DiskAt.of hD (Or.inl hbm) (fun t => ?_) (fun t u e1 e2 g htu h1 h2 hg1 hg2 => ?_) (Or.inl fd) (fun i hi => ?_) hg, ?_, fun i hi => hi.imp id (fun h => h.1)⟩
  · rw [hk1fs, look_put _ hr]
    by_cases e : t = s
    · subst e
      rw [mputF_same, if_pos rfl]
      exact ⟨hc1, hc2, hc3, fun g hg => (hc4 g hg).1⟩
    · rw [mputF_other _ _ e, if_neg e]
      have k2 : Keep (fun i => S i ∨ i = d ∨ i = bm) w w' := (hk.mono (fun _ h => Or.inl h)).trans (hk1.mono (fun _ h => Or.inr h))
      refine (ht t).keep k2 (fun c1 g h1 hg hSg => ?_) (fun _ h => Or.inl h)
      obtain ⟨_, o2, o3, _⟩ := hold t c1 g h1 hg
      rcases hSg with h | h | h
      · obtain ⟨c0, h0, h01⟩ := hS g h
        exact ha t s c1 c0 g e h1 h0 hg h01
      · exact o2 h
      · exact o3 h
  · by_cases et : t = s
    · subst et
      rw [mputF_same] at h1
      cases h1
      rw [mputF_other _ _ (fun e => htu e.symm)] at h2
      exact (hc4 g hg1).2 u e2 (fun e => htu e.symm) h2 hg2
    · rw [mputF_other _ _ et] at h1
      by_cases eu : u = s
      · subst eu
        rw [mputF_same] at h2
        cases h2
        exact (hc4 g hg2).2 t e1 htu h1 hg1
      · rw [mputF_other _ _ eu] at h2
        exact ha t u e1 e2 g htu h1 h2 hg1 hg2
  · rcases hi with h | h
    · exact Nat.lt_of_lt_of_le (lt i h) hsz
    · exact h.2
  · refine (hk.mono (fun i hi => ?_)).trans (hk1.mono (fun i hi => ?_))
    · obtain ⟨c0, h0, h01⟩ := hS i hi
      exact (hold s c0 i h0 h01).1
    · rcases hi with rfl | rfl
      · exact fd
      · exact hbm

/-- A file is dropped: what it leaves. -/
theorem DiskAt.dropped {w w' : World} {F : Nat → Prop} {d bm n : Nat} {k k1 : Dk} {m : Nm → Option FV} {s : Nm}
    (hbm : F bm) (ht : ∀ t, Tie w F (m t) (look k.fs t)) (ha : Apart m) (fd : F d) (lt : ∀ i, F i → i < w.heap.size)
    (hbl : w.heap[d]? = some (.cells (rcs (rawK k) bm) 101 (0, 0))) (hmp : FMap w bm k.fs.length m)
    (hk1 : Keep (fun i => i = d ∨ i = bm) w w')
    (hD : DR w' d bm n (rawK k1) (mputF m s none)) (hk1fs : k1.fs = dropL k.fs s) (hg : k1.Good) :
    DiskAt w' F d k1 ∧ (∀ t, Tie w' F (mputF m s none t) (look k1.fs t)) ∧ Apart (mputF m s none) ∧ Keep F w w' := by
  have hT : ∀ t, Tie w' F (mputF m s none t) (look k1.fs t) := fun t => by
    rw [hk1fs, look_drop]
    by_cases e : t = s
    · rw [if_pos e, e, mputF_same]; trivial
    · rw [if_neg e, mputF_other _ _ e]
      refine (ht t).keep hk1 (fun c1 g h1 hg hSg => ?_) (fun _ h => h)
      have h2 := ht t
      rw [h1] at h2
      obtain ⟨cur, hb⟩ := h2.blk hg
      rcases hSg with rfl | rfl
      · rw [hbl] at hb; cases hb
      · exact hmp.notCells hb rfl
  have hA : Apart (mputF m s none) := fun t u e1 e2 g htu h1 h2 hg1 hg2 => by
    by_cases et : t = s
    · rw [et, mputF_same] at h1; cases h1
    · by_cases eu : u = s
      · rw [eu, mputF_same] at h2; cases h2
      · rw [mputF_other _ _ et] at h1; rw [mputF_other _ _ eu] at h2
        exact ha t u e1 e2 g htu h1 h2 hg1 hg2
  refine ⟨DiskAt.of hD hbm hT hA fd (fun i hi => Nat.lt_of_lt_of_le (lt i hi) hk1.size) hg, hT, hA, hk1.mono (fun i hi => ?_)⟩
  rcases hi with rfl | rfl
  · exact fd
  · exact hbm

/-- The cells alone are turned. -/
theorem DiskAt.cells {w w' : World} {F : Nat → Prop} {d bm n : Nat} {k k1 : Dk} {m : Nm → Option FV}
    (hbm : F bm) (ht : ∀ t, Tie w F (m t) (look k.fs t)) (ha : Apart m) (fd : F d) (lt : ∀ i, F i → i < w.heap.size)
    (hbl : w.heap[d]? = some (.cells (rcs (rawK k) bm) 101 (0, 0)))
    (hk1 : Keep (fun i => i = d) w w') (hD : DR w' d bm n (rawK k1) m) (hk1fs : k1.fs = k.fs) (hg : k1.Good) :
    DiskAt w' F d k1 ∧ (∀ t, Tie w' F (m t) (look k1.fs t)) ∧ Keep F w w' := by
  have hT : ∀ t, Tie w' F (m t) (look k1.fs t) := fun t => by
    rw [hk1fs]
    refine (ht t).keep hk1 (fun c1 g h1 hg hSg => ?_) (fun _ h => h)
    have h2 := ht t
    rw [h1] at h2
    obtain ⟨cur, hb⟩ := h2.blk hg
    subst hSg
    rw [hbl] at hb; cases hb
  exact ⟨DiskAt.of hD hbm hT ha fd (fun i hi => Nat.lt_of_lt_of_le (lt i hi) hk1.size) hg, hT, hk1.mono (fun i hi => by subst hi; exact fd)⟩

end Go.Proofs.YtikkieaokfailaaGreatDoor
