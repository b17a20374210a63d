/- The document's First: a client's first message. -/
import Derived.Test.YtmilcknboaefkaaDoorScF
import Derived.Test.YtmilcknboaefkaaDoorScT
namespace Go.Proofs.YtmilcknboaefkaaDoor
open Go.RowKit Go.Shelf

theorem starts_ok {L p r : Tx} (h : sgn p L = some r) (w : World) (hL : L.length ≤ 1000000) (hp : p.length ≤ 1000) :
    Calls Tryd.prog 17 #[.string ⟨L.toArray⟩, .string ⟨p.toArray⟩] w fun e w' => e = .returned (.tuple #[.string ⟨r.toArray⟩, .bool true]) ∧ w' = w := by
  have c := starts_any L p w hL hp
  rw [h] at c
  exact c
theorem starts_no {L p : Tx} (h : sgn p L = none) (w : World) (hL : L.length ≤ 1000000) (hp : p.length ≤ 1000) :
    Calls Tryd.prog 17 #[.string ⟨L.toArray⟩, .string ⟨p.toArray⟩] w fun e w' => e = .returned (.tuple #[.string ⟨#[]⟩, .bool false]) ∧ w' = w := by
  have c := starts_any L p w hL hp
  rw [h] at c
  exact c
theorem at_ok {L : Tx} {c : UInt8} {k : Nat} (h : ix c L = k) (hk : k < L.length) (w : World) (hL : L.length ≤ 1000000) :
    Calls Tryd.prog 18 #[.string ⟨L.toArray⟩, .int .u8 (c.toNat : Int)] w fun e w' => e = .returned (.int .i64 (k : Int)) ∧ w' = w := by
  have q := at_any L c w hL
  rw [h, if_pos hk] at q
  exact q
theorem at_no {L : Tx} {c : UInt8} (h : ¬ ix c L < L.length) (w : World) (hL : L.length ≤ 1000000) :
    Calls Tryd.prog 18 #[.string ⟨L.toArray⟩, .int .u8 (c.toNat : Int)] w fun e w' => e = .returned (.int .i64 (-1)) ∧ w' = w := by
  have q := at_any L c w hL
  rw [if_neg h] at q
  exact q
theorem FAt.other {w : World} {R Q i : Nat} {a b c d : Value} (h : FAt w R a b c d) (hne : R ≠ Q) (v : Value) : FAt (w.setCell ⟨Q, i, none⟩ v) R a b c d := by
  unfold FAt; rw [Below.heap_setCell _ _ _ _ hne]; exact h
theorem hdr_n {L b : Tx} (h : sgn [110, 44, 44] L = some b) : hdr L = some ([110, 44, 44], b) := by
  have hL := sgn_some.1 h
  have hy : sgn [121, 44, 44] L = none := by
    cases h2 : sgn [121, 44, 44] L with
    | none => rfl
    | some r => have := sgn_some.1 h2; rw [hL] at this; simp at this
  unfold hdr; rw [hy, h]; rfl
theorem hdr_y {L b : Tx} (h : sgn [121, 44, 44] L = some b) : hdr L = some ([121, 44, 44], b) := by unfold hdr; rw [h]
theorem hdr_0 {L : Tx} (h : sgn [121, 44, 44] L = none) (h1 : sgn [110, 44, 44] L = none) : hdr L = none := by unfold hdr; rw [h, h1]; rfl
theorem no_comma {r : Tx} (h : ¬ ix 44 r < r.length) : rst r = [] := by unfold rst; exact List.drop_of_length_le (by omega)
theorem first4_yes {H b U r : Tx} (h : nonceB 128 r = true) : first4 H b U r = some ⟨H, U, r, b⟩ := by
  unfold first4; rw [prt_all (nonce_comma h), rst_all (nonce_comma h), if_pos h, if_pos rfl]
theorem first4_no {H b U r : Tx} (h : nonceB 128 r = false) : first4 H b U r = none := by
  unfold first4
  split
  · split
    · rename_i h1 h2
      have := prt_rst r
      rw [h2, List.append_nil] at this
      rw [this, h] at h1; cases h1
    · rfl
  · rfl

/-- The three blocks of the document's First: what it answers, an empty one, what it makes. -/
structure B3 (w w' : World) (g0 g1 g2 g3 : Value) : Prop where
  g : FAt w' (w.heap.size + 2) g0 g1 g2 g3
  n : FAt w' (w.heap.size + 1) (.string ⟨#[]⟩) (.string ⟨#[]⟩) (.string ⟨#[]⟩) (.string ⟨#[]⟩)
  r : FAt w' w.heap.size (.string ⟨#[]⟩) (.string ⟨#[]⟩) (.string ⟨#[]⟩) (.string ⟨#[]⟩)
  b : Below w.heap.size w w'
theorem B3.s0 {w w' : World} {g0 g1 g2 g3 : Value} (h : B3 w w' g0 g1 g2 g3) (v : Value) : B3 w (w'.setCell ⟨w.heap.size + 2, 0, none⟩ v) v g1 g2 g3 :=
  ⟨h.g.s0 v, h.n.other (by omega) v, h.r.other (by omega) v, h.b.setCell (p := ⟨w.heap.size + 2, 0, none⟩) (by show w.heap.size ≤ w.heap.size + 2; omega) v⟩
theorem B3.s1 {w w' : World} {g0 g1 g2 g3 : Value} (h : B3 w w' g0 g1 g2 g3) (v : Value) : B3 w (w'.setCell ⟨w.heap.size + 2, 1, none⟩ v) g0 v g2 g3 :=
  ⟨h.g.s1 v, h.n.other (by omega) v, h.r.other (by omega) v, h.b.setCell (p := ⟨w.heap.size + 2, 1, none⟩) (by show w.heap.size ≤ w.heap.size + 2; omega) v⟩
theorem B3.s2 {w w' : World} {g0 g1 g2 g3 : Value} (h : B3 w w' g0 g1 g2 g3) (v : Value) : B3 w (w'.setCell ⟨w.heap.size + 2, 2, none⟩ v) g0 g1 v g3 :=
  ⟨h.g.s2 v, h.n.other (by omega) v, h.r.other (by omega) v, h.b.setCell (p := ⟨w.heap.size + 2, 2, none⟩) (by show w.heap.size ≤ w.heap.size + 2; omega) v⟩
theorem B3.s3 {w w' : World} {g0 g1 g2 g3 : Value} (h : B3 w w' g0 g1 g2 g3) (v : Value) : B3 w (w'.setCell ⟨w.heap.size + 2, 3, none⟩ v) g0 g1 g2 v :=
  ⟨h.g.s3 v, h.n.other (by omega) v, h.r.other (by omega) v, h.b.setCell (p := ⟨w.heap.size + 2, 3, none⟩) (by show w.heap.size ≤ w.heap.size + 2; omega) v⟩
theorem B3.start {w W1 : World} (hb1 : Below w.heap.size w W1) (hR1 : FAt W1 w.heap.size (.string ⟨#[]⟩) (.string ⟨#[]⟩) (.string ⟨#[]⟩) (.string ⟨#[]⟩)) (hz1 : W1.heap.size = w.heap.size + 1) : B3 w ((W1.alloc (.cells #[.string ⟨#[]⟩, .string ⟨#[]⟩, .string ⟨#[]⟩, .string ⟨#[]⟩] 25)).alloc (.cells #[.string ⟨#[110, 44, 44]⟩, .string ⟨#[]⟩, .string ⟨#[]⟩, .string ⟨#[]⟩] 25)) (.string ⟨#[110, 44, 44]⟩) (.string ⟨#[]⟩) (.string ⟨#[]⟩) (.string ⟨#[]⟩) := by
  have hz2 : (W1.alloc (.cells #[.string ⟨#[]⟩, .string ⟨#[]⟩, .string ⟨#[]⟩, .string ⟨#[]⟩] 25)).heap.size = w.heap.size + 2 := by simp [hz1]
  have hN2 : FAt (W1.alloc (.cells #[.string ⟨#[]⟩, .string ⟨#[]⟩, .string ⟨#[]⟩, .string ⟨#[]⟩] 25)) (w.heap.size + 1) (.string ⟨#[]⟩) (.string ⟨#[]⟩) (.string ⟨#[]⟩) (.string ⟨#[]⟩) := by have := heap_alloc_new W1 (.cells #[.string ⟨#[]⟩, .string ⟨#[]⟩, .string ⟨#[]⟩, .string ⟨#[]⟩] 25); rw [hz1] at this; exact this
  have hR2 := hR1.below ((Below.refl _ _).alloc (Nat.le_refl _) (.cells #[.string ⟨#[]⟩, .string ⟨#[]⟩, .string ⟨#[]⟩, .string ⟨#[]⟩] 25))
  refine ⟨?_, hN2.below ((Below.refl _ _).alloc (Nat.le_refl _) _), hR2.below ((Below.refl _ _).alloc (Nat.le_refl _) _), (hb1.alloc (by omega) _).alloc (by omega) _⟩
  have := heap_alloc_new (W1.alloc (.cells #[.string ⟨#[]⟩, .string ⟨#[]⟩, .string ⟨#[]⟩, .string ⟨#[]⟩] 25)) (.cells #[.string ⟨#[110, 44, 44]⟩, .string ⟨#[]⟩, .string ⟨#[]⟩, .string ⟨#[]⟩] 25)
  rw [hz2] at this; exact this

set_option maxHeartbeats 2000000 in
set_option maxRecDepth 100000 in
theorem refFirst_long (L : Tx) (w : World) (hl : 1024 < L.length) : Calls Tryd.prog 6 #[.string ⟨L.toArray⟩] w fun e w' => e = .returned (.tuple #[.agg #[.string ⟨#[]⟩, .string ⟨#[]⟩, .string ⟨#[]⟩, .string ⟨#[]⟩], .int .i64 5]) ∧ Below w.heap.size w w' := by
  have hb1 : Below w.heap.size w (w.alloc (.cells #[.string ⟨#[]⟩, .string ⟨#[]⟩, .string ⟨#[]⟩, .string ⟨#[]⟩] 25)) := (Below.refl _ _).alloc (Nat.le_refl _) _
  have hR1 : FAt (w.alloc (.cells #[.string ⟨#[]⟩, .string ⟨#[]⟩, .string ⟨#[]⟩, .string ⟨#[]⟩] 25)) w.heap.size (.string ⟨#[]⟩) (.string ⟨#[]⟩) (.string ⟨#[]⟩) (.string ⟨#[]⟩) := heap_alloc_new w _
  have hz1 : (w.alloc (.cells #[.string ⟨#[]⟩, .string ⟨#[]⟩, .string ⟨#[]⟩, .string ⟨#[]⟩] 25)).heap.size = w.heap.size + 1 := by simp
  generalize hW1 : w.alloc (.cells #[.string ⟨#[]⟩, .string ⟨#[]⟩, .string ⟨#[]⟩, .string ⟨#[]⟩] 25) = W1 at hb1 hR1 hz1
  have hz := size_tx L
  have hd : (L.length : Int) > 1024 := by omega
  have rc0 := hR1.c0
  have rf0 := hR1.fz 0
  have rc1 := hR1.c1
  have rf1 := hR1.fz 1
  have rc2 := hR1.c2
  have rf2 := hR1.fz 2
  have rc3 := hR1.c3
  have rf3 := hR1.fz 3
  go_enter Tryd.func6, Tryd.ntmps6
  go_wp2
  have hF1 := (((hR1.s0 (.string ⟨#[]⟩)).s1 (.string ⟨#[]⟩)).s2 (.string ⟨#[]⟩)).s3 (.string ⟨#[]⟩)
  have hF := hF1.below ((Below.refl _ _).alloc (Nat.le_refl _) (.cells #[.string ⟨#[]⟩, .string ⟨#[]⟩, .string ⟨#[]⟩, .string ⟨#[]⟩] 25))
  have d0 := hF.c0
  have d1 := hF.c1
  have d2 := hF.c2
  have d3 := hF.c3
  refine bodyPost_ret (v := .tuple #[.agg #[.string ⟨#[]⟩, .string ⟨#[]⟩, .string ⟨#[]⟩, .string ⟨#[]⟩], .int .i64 5]) (by simp [results, Tryd.results6, go_sem, d0, d1, d2, d3]) rfl ⟨rfl, ?_⟩
  exact ((((hb1.setCell (p := ⟨w.heap.size, 0, none⟩) (Nat.le_refl _) _).setCell (p := ⟨w.heap.size, 1, none⟩) (Nat.le_refl _) _).setCell (p := ⟨w.heap.size, 2, none⟩) (Nat.le_refl _) _).setCell (p := ⟨w.heap.size, 3, none⟩) (Nat.le_refl _) _).alloc (by simp [World.setCell, hz1]) _

set_option maxHeartbeats 4000000 in
set_option maxRecDepth 100000 in
theorem refFirst_n1 (L : Tx) (w : World) (hl : L.length ≤ 1024) (b : Tx) (hh : sgn [110, 44, 44] L = some b) (h1 : sgn [110, 61] b = none) : Calls Tryd.prog 6 #[.string ⟨L.toArray⟩] w fun e w' => e = .returned (.tuple #[.agg #[.string ⟨#[]⟩, .string ⟨#[]⟩, .string ⟨#[]⟩, .string ⟨#[]⟩], .int .i64 2]) ∧ Below w.heap.size w w' := by
  have hb1 : Below w.heap.size w (w.alloc (.cells #[.string ⟨#[]⟩, .string ⟨#[]⟩, .string ⟨#[]⟩, .string ⟨#[]⟩] 25)) := (Below.refl _ _).alloc (Nat.le_refl _) _
  have hR1 : FAt (w.alloc (.cells #[.string ⟨#[]⟩, .string ⟨#[]⟩, .string ⟨#[]⟩, .string ⟨#[]⟩] 25)) w.heap.size (.string ⟨#[]⟩) (.string ⟨#[]⟩) (.string ⟨#[]⟩) (.string ⟨#[]⟩) := heap_alloc_new w _
  have hz1 : (w.alloc (.cells #[.string ⟨#[]⟩, .string ⟨#[]⟩, .string ⟨#[]⟩, .string ⟨#[]⟩] 25)).heap.size = w.heap.size + 1 := by simp
  generalize hW1 : w.alloc (.cells #[.string ⟨#[]⟩, .string ⟨#[]⟩, .string ⟨#[]⟩, .string ⟨#[]⟩] 25) = W1 at hb1 hR1 hz1
  have hB3 : B3 w ((W1.alloc (.cells #[.string ⟨#[]⟩, .string ⟨#[]⟩, .string ⟨#[]⟩, .string ⟨#[]⟩] 25)).alloc (.cells #[.string ⟨#[110, 44, 44]⟩, .string ⟨#[]⟩, .string ⟨#[]⟩, .string ⟨#[]⟩] 25)) (.string ⟨#[110, 44, 44]⟩) (.string ⟨#[]⟩) (.string ⟨#[]⟩) (.string ⟨#[]⟩) := B3.start hb1 hR1 hz1
  have hz2 : (W1.alloc (.cells #[.string ⟨#[]⟩, .string ⟨#[]⟩, .string ⟨#[]⟩, .string ⟨#[]⟩] 25)).heap.size = w.heap.size + 2 := by simp [hz1]
  clear hb1 hR1
  have hz := size_tx L
  have hd : ¬ ((L.length : Int) > 1024) := by omega
  have c1 := (starts_ok hh ((W1.alloc (.cells #[.string ⟨#[]⟩, .string ⟨#[]⟩, .string ⟨#[]⟩, .string ⟨#[]⟩] 25)).alloc (.cells #[.string ⟨#[110, 44, 44]⟩, .string ⟨#[]⟩, .string ⟨#[]⟩, .string ⟨#[]⟩] 25)) (by omega) (by simp)).mono (fun e w' q => (And.intro q.1 (q.2 ▸ hB3) : _ ∧ B3 w w' (.string ⟨#[110, 44, 44]⟩) (.string ⟨#[]⟩) (.string ⟨#[]⟩) (.string ⟨#[]⟩)))
  clear hB3
  have hlb := sgn_len hh
  have cN := fun w => starts_no h1 w (by omega) (by simp)
  have cA := fun w => at_no (L := []) (c := 44) (by simp) w (by simp)
  have tk1 : True := trivial
  go_enter Tryd.func6, Tryd.ntmps6
  go_wp2_with (first
    | (clear tk1; go_at_call 17; refine c1.mono ?_; rintro e W3 ⟨rfl, hB3⟩; clear c1; have hBE := hB3; have rc0 := hBE.r.c0; have rf0 := hBE.r.fz 0; have nc0 := hBE.n.c0; have rc1 := hBE.r.c1; have rf1 := hBE.r.fz 1; have nc1 := hBE.n.c1; have rc2 := hBE.r.c2; have rf2 := hBE.r.fz 2; have nc2 := hBE.n.c2; have rc3 := hBE.r.c3; have rf3 := hBE.r.fz 3; have nc3 := hBE.n.c3)
    | (go_at_call 17; refine (cN _).mono ?_; rintro e wq ⟨rfl, rfl⟩)
    | (go_at_call 18; refine (cA _).mono ?_; rintro e wq ⟨rfl, rfl⟩))
  have hF := (((hBE.r.s0 (.string ⟨#[]⟩)).s1 (.string ⟨#[]⟩)).s2 (.string ⟨#[]⟩)).s3 (.string ⟨#[]⟩)
  have d0 := hF.c0
  have d1 := hF.c1
  have d2 := hF.c2
  have d3 := hF.c3
  refine bodyPost_ret (v := .tuple #[.agg #[.string ⟨#[]⟩, .string ⟨#[]⟩, .string ⟨#[]⟩, .string ⟨#[]⟩], .int .i64 2]) (by simp [results, Tryd.results6, go_sem, d0, d1, d2, d3]) rfl ⟨rfl, ?_⟩
  exact (((hBE.b.setCell (p := ⟨w.heap.size, 0, none⟩) (Nat.le_refl _) _).setCell (p := ⟨w.heap.size, 1, none⟩) (Nat.le_refl _) _).setCell (p := ⟨w.heap.size, 2, none⟩) (Nat.le_refl _) _).setCell (p := ⟨w.heap.size, 3, none⟩) (Nat.le_refl _) _

set_option maxHeartbeats 4000000 in
set_option maxRecDepth 100000 in
theorem refFirst_n2 (L : Tx) (w : World) (hl : L.length ≤ 1024) (b : Tx) (hh : sgn [110, 44, 44] L = some b) (r : Tx) (h1 : sgn [110, 61] b = some r) (h2 : ¬ ix 44 r < r.length) : Calls Tryd.prog 6 #[.string ⟨L.toArray⟩] w fun e w' => e = .returned (.tuple #[.agg #[.string ⟨#[]⟩, .string ⟨#[]⟩, .string ⟨#[]⟩, .string ⟨#[]⟩], .int .i64 2]) ∧ Below w.heap.size w w' := by
  have hb1 : Below w.heap.size w (w.alloc (.cells #[.string ⟨#[]⟩, .string ⟨#[]⟩, .string ⟨#[]⟩, .string ⟨#[]⟩] 25)) := (Below.refl _ _).alloc (Nat.le_refl _) _
  have hR1 : FAt (w.alloc (.cells #[.string ⟨#[]⟩, .string ⟨#[]⟩, .string ⟨#[]⟩, .string ⟨#[]⟩] 25)) w.heap.size (.string ⟨#[]⟩) (.string ⟨#[]⟩) (.string ⟨#[]⟩) (.string ⟨#[]⟩) := heap_alloc_new w _
  have hz1 : (w.alloc (.cells #[.string ⟨#[]⟩, .string ⟨#[]⟩, .string ⟨#[]⟩, .string ⟨#[]⟩] 25)).heap.size = w.heap.size + 1 := by simp
  generalize hW1 : w.alloc (.cells #[.string ⟨#[]⟩, .string ⟨#[]⟩, .string ⟨#[]⟩, .string ⟨#[]⟩] 25) = W1 at hb1 hR1 hz1
  have hB3 : B3 w ((W1.alloc (.cells #[.string ⟨#[]⟩, .string ⟨#[]⟩, .string ⟨#[]⟩, .string ⟨#[]⟩] 25)).alloc (.cells #[.string ⟨#[110, 44, 44]⟩, .string ⟨#[]⟩, .string ⟨#[]⟩, .string ⟨#[]⟩] 25)) (.string ⟨#[110, 44, 44]⟩) (.string ⟨#[]⟩) (.string ⟨#[]⟩) (.string ⟨#[]⟩) := B3.start hb1 hR1 hz1
  have hz2 : (W1.alloc (.cells #[.string ⟨#[]⟩, .string ⟨#[]⟩, .string ⟨#[]⟩, .string ⟨#[]⟩] 25)).heap.size = w.heap.size + 2 := by simp [hz1]
  clear hb1 hR1
  have hz := size_tx L
  have hd : ¬ ((L.length : Int) > 1024) := by omega
  have c1 := (starts_ok hh ((W1.alloc (.cells #[.string ⟨#[]⟩, .string ⟨#[]⟩, .string ⟨#[]⟩, .string ⟨#[]⟩] 25)).alloc (.cells #[.string ⟨#[110, 44, 44]⟩, .string ⟨#[]⟩, .string ⟨#[]⟩, .string ⟨#[]⟩] 25)) (by omega) (by simp)).mono (fun e w' q => (And.intro q.1 (q.2 ▸ hB3) : _ ∧ B3 w w' (.string ⟨#[110, 44, 44]⟩) (.string ⟨#[]⟩) (.string ⟨#[]⟩) (.string ⟨#[]⟩)))
  clear hB3
  have hlb := sgn_len hh
  have hlr := sgn_len h1
  have cN := fun w => starts_ok h1 w (by omega) (by simp)
  have cA := fun w => at_no h2 w (by omega)
  have tk1 : True := trivial
  go_enter Tryd.func6, Tryd.ntmps6
  go_wp2_with (first
    | (clear tk1; go_at_call 17; refine c1.mono ?_; rintro e W3 ⟨rfl, hB3⟩; clear c1; have hBE := hB3; have rc0 := hBE.r.c0; have rf0 := hBE.r.fz 0; have nc0 := hBE.n.c0; have rc1 := hBE.r.c1; have rf1 := hBE.r.fz 1; have nc1 := hBE.n.c1; have rc2 := hBE.r.c2; have rf2 := hBE.r.fz 2; have nc2 := hBE.n.c2; have rc3 := hBE.r.c3; have rf3 := hBE.r.fz 3; have nc3 := hBE.n.c3)
    | (go_at_call 17; refine (cN _).mono ?_; rintro e wq ⟨rfl, rfl⟩)
    | (go_at_call 18; refine (cA _).mono ?_; rintro e wq ⟨rfl, rfl⟩))
  have hF := (((hBE.r.s0 (.string ⟨#[]⟩)).s1 (.string ⟨#[]⟩)).s2 (.string ⟨#[]⟩)).s3 (.string ⟨#[]⟩)
  have d0 := hF.c0
  have d1 := hF.c1
  have d2 := hF.c2
  have d3 := hF.c3
  refine bodyPost_ret (v := .tuple #[.agg #[.string ⟨#[]⟩, .string ⟨#[]⟩, .string ⟨#[]⟩, .string ⟨#[]⟩], .int .i64 2]) (by simp [results, Tryd.results6, go_sem, d0, d1, d2, d3]) rfl ⟨rfl, ?_⟩
  exact (((hBE.b.setCell (p := ⟨w.heap.size, 0, none⟩) (Nat.le_refl _) _).setCell (p := ⟨w.heap.size, 1, none⟩) (Nat.le_refl _) _).setCell (p := ⟨w.heap.size, 2, none⟩) (Nat.le_refl _) _).setCell (p := ⟨w.heap.size, 3, none⟩) (Nat.le_refl _) _

set_option maxHeartbeats 4000000 in
set_option maxRecDepth 100000 in
theorem refFirst_n3 (L : Tx) (w : World) (hl : L.length ≤ 1024) (b : Tx) (hh : sgn [110, 44, 44] L = some b) (r : Tx) (h1 : sgn [110, 61] b = some r) (h2 : ix 44 r < r.length) (h3 : nameO (prt r) = none) : Calls Tryd.prog 6 #[.string ⟨L.toArray⟩] w fun e w' => e = .returned (.tuple #[.agg #[.string ⟨#[]⟩, .string ⟨#[]⟩, .string ⟨#[]⟩, .string ⟨#[]⟩], .int .i64 2]) ∧ Below w.heap.size w w' := by
  have hb1 : Below w.heap.size w (w.alloc (.cells #[.string ⟨#[]⟩, .string ⟨#[]⟩, .string ⟨#[]⟩, .string ⟨#[]⟩] 25)) := (Below.refl _ _).alloc (Nat.le_refl _) _
  have hR1 : FAt (w.alloc (.cells #[.string ⟨#[]⟩, .string ⟨#[]⟩, .string ⟨#[]⟩, .string ⟨#[]⟩] 25)) w.heap.size (.string ⟨#[]⟩) (.string ⟨#[]⟩) (.string ⟨#[]⟩) (.string ⟨#[]⟩) := heap_alloc_new w _
  have hz1 : (w.alloc (.cells #[.string ⟨#[]⟩, .string ⟨#[]⟩, .string ⟨#[]⟩, .string ⟨#[]⟩] 25)).heap.size = w.heap.size + 1 := by simp
  generalize hW1 : w.alloc (.cells #[.string ⟨#[]⟩, .string ⟨#[]⟩, .string ⟨#[]⟩, .string ⟨#[]⟩] 25) = W1 at hb1 hR1 hz1
  have hB3 : B3 w ((W1.alloc (.cells #[.string ⟨#[]⟩, .string ⟨#[]⟩, .string ⟨#[]⟩, .string ⟨#[]⟩] 25)).alloc (.cells #[.string ⟨#[110, 44, 44]⟩, .string ⟨#[]⟩, .string ⟨#[]⟩, .string ⟨#[]⟩] 25)) (.string ⟨#[110, 44, 44]⟩) (.string ⟨#[]⟩) (.string ⟨#[]⟩) (.string ⟨#[]⟩) := B3.start hb1 hR1 hz1
  have hz2 : (W1.alloc (.cells #[.string ⟨#[]⟩, .string ⟨#[]⟩, .string ⟨#[]⟩, .string ⟨#[]⟩] 25)).heap.size = w.heap.size + 2 := by simp [hz1]
  clear hb1 hR1
  have hz := size_tx L
  have hd : ¬ ((L.length : Int) > 1024) := by omega
  have c1 := (starts_ok hh ((W1.alloc (.cells #[.string ⟨#[]⟩, .string ⟨#[]⟩, .string ⟨#[]⟩, .string ⟨#[]⟩] 25)).alloc (.cells #[.string ⟨#[110, 44, 44]⟩, .string ⟨#[]⟩, .string ⟨#[]⟩, .string ⟨#[]⟩] 25)) (by omega) (by simp)).mono (fun e w' q => (And.intro q.1 (q.2 ▸ hB3) : _ ∧ B3 w w' (.string ⟨#[110, 44, 44]⟩) (.string ⟨#[]⟩) (.string ⟨#[]⟩) (.string ⟨#[]⟩)))
  clear hB3
  have hlb := sgn_len hh
  have hlr := sgn_len h1
  have cN := fun w => starts_ok h1 w (by omega) (by simp)
  obtain ⟨k, hk⟩ : ∃ k, ix 44 r = k := ⟨_, rfl⟩
  have h2' := h2
  rw [hk] at h2'
  have cA := fun w => at_ok hk h2' w (by omega)
  have hx := take_tx r k
  have hy := drop_tx r k
  have hzr := size_tx r
  rw [show r.take k = prt r by unfold prt; rw [hk]] at hx
  rw [show r.drop k = rst r by unfold rst; rw [hk]] at hy
  have k0 : (k : Int) ≤ (r.length : Int) := by omega
  have hlp : (prt r).length ≤ r.length := by unfold prt; rw [List.length_take]; omega
  have hls := rst_len r
  have cP := fun (u : World) (g0 g3 : Value) (hB : B3 w u g0 (.string ⟨#[]⟩) (.string ⟨#[]⟩) g3) => (plain_any (prt r) u (by omega)).mono (fun e w' q => (And.intro q.1 (q.2 ▸ hB) : _ ∧ B3 w w' g0 (.string ⟨#[]⟩) (.string ⟨#[]⟩) g3))
  rw [h3] at cP
  have cR := fun (u : World) (g0 g1 g3 : Value) (hB : B3 w u g0 g1 (.string ⟨#[]⟩) g3) => (starts_any (rst r) [44, 114, 61] u (by omega) (by simp)).mono (fun e w' q => (And.intro q.1 (q.2 ▸ hB) : _ ∧ B3 w w' g0 g1 (.string ⟨#[]⟩) g3))
  obtain ⟨sv, hsv⟩ : ∃ v, ((sgn [44, 114, 61] (rst r)).getD []) = v := ⟨_, rfl⟩
  obtain ⟨sb, hsb⟩ : ∃ v, (sgn [44, 114, 61] (rst r)).isSome = v := ⟨_, rfl⟩
  rw [hsv, hsb] at cR
  obtain ⟨n, Hn⟩ : ∃ n, Hid (r.length = n) := ⟨_, rfl⟩
  rw [Hn.out] at hy hzr k0
  clear h1 h2 h2' h3 hk hh
  have tk1 : True := trivial
  go_enter Tryd.func6, Tryd.ntmps6
  go_wp2_with (first
    | (clear tk1; go_at_call 17; refine c1.mono ?_; rintro e W3 ⟨rfl, hB3⟩; clear c1; have qhB5 := hB3.g.c3; have zhB5 := hB3.g.fz 3; have hB5 := hB3.s3 (.string ⟨b.toArray⟩))
    | (go_at_call 17; refine (cN _).mono ?_; rintro e wq ⟨rfl, rfl⟩)
    | (go_at_call 18; refine (cA _).mono ?_; rintro e wq ⟨rfl, rfl⟩))
  refine (cP _ _ _ hB5).mono ?_
  rintro e W5 ⟨⟨o, he, ho⟩, hB6⟩
  clear qhB5 zhB5 hB5
  subst he
  clear ho; have qhB7 := hB6.g.c1; have zhB7 := hB6.g.fz 1; have hB7 := hB6.s1 (.string ⟨o.toArray⟩)
  clear hB6 cP cN cA
  go_wp2_with (first
    | (go_at_call 17; refine (cR _ _ _ _ hB7).mono ?_; rintro e W8 ⟨rfl, hB8⟩; clear qhB7 zhB7 hB7 cR; have qhB9 := hB8.g.c2; have zhB9 := hB8.g.fz 2; have hB9 := hB8.s2 (.string ⟨sv.toArray⟩); have hBE := hB9; have rc0 := hBE.r.c0; have rf0 := hBE.r.fz 0; have nc0 := hBE.n.c0; have rc1 := hBE.r.c1; have rf1 := hBE.r.fz 1; have nc1 := hBE.n.c1; have rc2 := hBE.r.c2; have rf2 := hBE.r.fz 2; have nc2 := hBE.n.c2; have rc3 := hBE.r.c3; have rf3 := hBE.r.fz 3; have nc3 := hBE.n.c3))
  have hF := (((hBE.r.s0 (.string ⟨#[]⟩)).s1 (.string ⟨#[]⟩)).s2 (.string ⟨#[]⟩)).s3 (.string ⟨#[]⟩)
  have d0 := hF.c0
  have d1 := hF.c1
  have d2 := hF.c2
  have d3 := hF.c3
  refine bodyPost_ret (v := .tuple #[.agg #[.string ⟨#[]⟩, .string ⟨#[]⟩, .string ⟨#[]⟩, .string ⟨#[]⟩], .int .i64 2]) (by simp [results, Tryd.results6, go_sem, d0, d1, d2, d3]) rfl ⟨rfl, ?_⟩
  exact (((hBE.b.setCell (p := ⟨w.heap.size, 0, none⟩) (Nat.le_refl _) _).setCell (p := ⟨w.heap.size, 1, none⟩) (Nat.le_refl _) _).setCell (p := ⟨w.heap.size, 2, none⟩) (Nat.le_refl _) _).setCell (p := ⟨w.heap.size, 3, none⟩) (Nat.le_refl _) _

set_option maxHeartbeats 4000000 in
set_option maxRecDepth 100000 in
theorem refFirst_n4 (L : Tx) (w : World) (hl : L.length ≤ 1024) (b : Tx) (hh : sgn [110, 44, 44] L = some b) (r : Tx) (h1 : sgn [110, 61] b = some r) (h2 : ix 44 r < r.length) (U : Tx) (h3 : nameO (prt r) = some U) (h4 : sgn [44, 114, 61] (rst r) = none) : Calls Tryd.prog 6 #[.string ⟨L.toArray⟩] w fun e w' => e = .returned (.tuple #[.agg #[.string ⟨#[]⟩, .string ⟨#[]⟩, .string ⟨#[]⟩, .string ⟨#[]⟩], .int .i64 2]) ∧ Below w.heap.size w w' := by
  have hb1 : Below w.heap.size w (w.alloc (.cells #[.string ⟨#[]⟩, .string ⟨#[]⟩, .string ⟨#[]⟩, .string ⟨#[]⟩] 25)) := (Below.refl _ _).alloc (Nat.le_refl _) _
  have hR1 : FAt (w.alloc (.cells #[.string ⟨#[]⟩, .string ⟨#[]⟩, .string ⟨#[]⟩, .string ⟨#[]⟩] 25)) w.heap.size (.string ⟨#[]⟩) (.string ⟨#[]⟩) (.string ⟨#[]⟩) (.string ⟨#[]⟩) := heap_alloc_new w _
  have hz1 : (w.alloc (.cells #[.string ⟨#[]⟩, .string ⟨#[]⟩, .string ⟨#[]⟩, .string ⟨#[]⟩] 25)).heap.size = w.heap.size + 1 := by simp
  generalize hW1 : w.alloc (.cells #[.string ⟨#[]⟩, .string ⟨#[]⟩, .string ⟨#[]⟩, .string ⟨#[]⟩] 25) = W1 at hb1 hR1 hz1
  have hB3 : B3 w ((W1.alloc (.cells #[.string ⟨#[]⟩, .string ⟨#[]⟩, .string ⟨#[]⟩, .string ⟨#[]⟩] 25)).alloc (.cells #[.string ⟨#[110, 44, 44]⟩, .string ⟨#[]⟩, .string ⟨#[]⟩, .string ⟨#[]⟩] 25)) (.string ⟨#[110, 44, 44]⟩) (.string ⟨#[]⟩) (.string ⟨#[]⟩) (.string ⟨#[]⟩) := B3.start hb1 hR1 hz1
  have hz2 : (W1.alloc (.cells #[.string ⟨#[]⟩, .string ⟨#[]⟩, .string ⟨#[]⟩, .string ⟨#[]⟩] 25)).heap.size = w.heap.size + 2 := by simp [hz1]
  clear hb1 hR1
  have hz := size_tx L
  have hd : ¬ ((L.length : Int) > 1024) := by omega
  have c1 := (starts_ok hh ((W1.alloc (.cells #[.string ⟨#[]⟩, .string ⟨#[]⟩, .string ⟨#[]⟩, .string ⟨#[]⟩] 25)).alloc (.cells #[.string ⟨#[110, 44, 44]⟩, .string ⟨#[]⟩, .string ⟨#[]⟩, .string ⟨#[]⟩] 25)) (by omega) (by simp)).mono (fun e w' q => (And.intro q.1 (q.2 ▸ hB3) : _ ∧ B3 w w' (.string ⟨#[110, 44, 44]⟩) (.string ⟨#[]⟩) (.string ⟨#[]⟩) (.string ⟨#[]⟩)))
  clear hB3
  have hlb := sgn_len hh
  have hlr := sgn_len h1
  have cN := fun w => starts_ok h1 w (by omega) (by simp)
  obtain ⟨k, hk⟩ : ∃ k, ix 44 r = k := ⟨_, rfl⟩
  have h2' := h2
  rw [hk] at h2'
  have cA := fun w => at_ok hk h2' w (by omega)
  have hx := take_tx r k
  have hy := drop_tx r k
  have hzr := size_tx r
  rw [show r.take k = prt r by unfold prt; rw [hk]] at hx
  rw [show r.drop k = rst r by unfold rst; rw [hk]] at hy
  have k0 : (k : Int) ≤ (r.length : Int) := by omega
  have hlp : (prt r).length ≤ r.length := by unfold prt; rw [List.length_take]; omega
  have hls := rst_len r
  have cP := fun (u : World) (g0 g3 : Value) (hB : B3 w u g0 (.string ⟨#[]⟩) (.string ⟨#[]⟩) g3) => (plain_any (prt r) u (by omega)).mono (fun e w' q => (And.intro q.1 (q.2 ▸ hB) : _ ∧ B3 w w' g0 (.string ⟨#[]⟩) (.string ⟨#[]⟩) g3))
  rw [h3] at cP
  have cR := fun (u : World) (g0 g1 g3 : Value) (hB : B3 w u g0 g1 (.string ⟨#[]⟩) g3) => (starts_no h4 u (by omega) (by simp)).mono (fun e w' q => (And.intro q.1 (q.2 ▸ hB) : _ ∧ B3 w w' g0 g1 (.string ⟨#[]⟩) g3))
  obtain ⟨n, Hn⟩ : ∃ n, Hid (r.length = n) := ⟨_, rfl⟩
  rw [Hn.out] at hy hzr k0
  clear h1 h2 h2' h3 hk hh
  clear h4
  have tk1 : True := trivial
  go_enter Tryd.func6, Tryd.ntmps6
  go_wp2_with (first
    | (clear tk1; go_at_call 17; refine c1.mono ?_; rintro e W3 ⟨rfl, hB3⟩; clear c1; have qhB5 := hB3.g.c3; have zhB5 := hB3.g.fz 3; have hB5 := hB3.s3 (.string ⟨b.toArray⟩))
    | (go_at_call 17; refine (cN _).mono ?_; rintro e wq ⟨rfl, rfl⟩)
    | (go_at_call 18; refine (cA _).mono ?_; rintro e wq ⟨rfl, rfl⟩))
  refine (cP _ _ _ hB5).mono ?_
  rintro e W5 ⟨⟨o, he, ho⟩, hB6⟩
  clear qhB5 zhB5 hB5
  rw [ho U rfl] at he
  subst he
  clear ho; have qhB7 := hB6.g.c1; have zhB7 := hB6.g.fz 1; have hB7 := hB6.s1 (.string ⟨U.toArray⟩)
  clear hB6 cP cN cA
  go_wp2_with (first
    | (go_at_call 17; refine (cR _ _ _ _ hB7).mono ?_; rintro e W8 ⟨rfl, hB8⟩; clear qhB7 zhB7 hB7 cR; have qhB9 := hB8.g.c2; have zhB9 := hB8.g.fz 2; have hB9 := hB8.s2 (.string ⟨#[]⟩); have hBE := hB9; have rc0 := hBE.r.c0; have rf0 := hBE.r.fz 0; have nc0 := hBE.n.c0; have rc1 := hBE.r.c1; have rf1 := hBE.r.fz 1; have nc1 := hBE.n.c1; have rc2 := hBE.r.c2; have rf2 := hBE.r.fz 2; have nc2 := hBE.n.c2; have rc3 := hBE.r.c3; have rf3 := hBE.r.fz 3; have nc3 := hBE.n.c3))
  have hF := (((hBE.r.s0 (.string ⟨#[]⟩)).s1 (.string ⟨#[]⟩)).s2 (.string ⟨#[]⟩)).s3 (.string ⟨#[]⟩)
  have d0 := hF.c0
  have d1 := hF.c1
  have d2 := hF.c2
  have d3 := hF.c3
  refine bodyPost_ret (v := .tuple #[.agg #[.string ⟨#[]⟩, .string ⟨#[]⟩, .string ⟨#[]⟩, .string ⟨#[]⟩], .int .i64 2]) (by simp [results, Tryd.results6, go_sem, d0, d1, d2, d3]) rfl ⟨rfl, ?_⟩
  exact (((hBE.b.setCell (p := ⟨w.heap.size, 0, none⟩) (Nat.le_refl _) _).setCell (p := ⟨w.heap.size, 1, none⟩) (Nat.le_refl _) _).setCell (p := ⟨w.heap.size, 2, none⟩) (Nat.le_refl _) _).setCell (p := ⟨w.heap.size, 3, none⟩) (Nat.le_refl _) _

set_option maxHeartbeats 4000000 in
set_option maxRecDepth 100000 in
theorem refFirst_n5 (L : Tx) (w : World) (hl : L.length ≤ 1024) (b : Tx) (hh : sgn [110, 44, 44] L = some b) (r : Tx) (h1 : sgn [110, 61] b = some r) (h2 : ix 44 r < r.length) (U : Tx) (h3 : nameO (prt r) = some U) (r2 : Tx) (h4 : sgn [44, 114, 61] (rst r) = some r2) (h5 : nonceB 128 r2 = false) : Calls Tryd.prog 6 #[.string ⟨L.toArray⟩] w fun e w' => e = .returned (.tuple #[.agg #[.string ⟨#[]⟩, .string ⟨#[]⟩, .string ⟨#[]⟩, .string ⟨#[]⟩], .int .i64 2]) ∧ Below w.heap.size w w' := by
  have hb1 : Below w.heap.size w (w.alloc (.cells #[.string ⟨#[]⟩, .string ⟨#[]⟩, .string ⟨#[]⟩, .string ⟨#[]⟩] 25)) := (Below.refl _ _).alloc (Nat.le_refl _) _
  have hR1 : FAt (w.alloc (.cells #[.string ⟨#[]⟩, .string ⟨#[]⟩, .string ⟨#[]⟩, .string ⟨#[]⟩] 25)) w.heap.size (.string ⟨#[]⟩) (.string ⟨#[]⟩) (.string ⟨#[]⟩) (.string ⟨#[]⟩) := heap_alloc_new w _
  have hz1 : (w.alloc (.cells #[.string ⟨#[]⟩, .string ⟨#[]⟩, .string ⟨#[]⟩, .string ⟨#[]⟩] 25)).heap.size = w.heap.size + 1 := by simp
  generalize hW1 : w.alloc (.cells #[.string ⟨#[]⟩, .string ⟨#[]⟩, .string ⟨#[]⟩, .string ⟨#[]⟩] 25) = W1 at hb1 hR1 hz1
  have hB3 : B3 w ((W1.alloc (.cells #[.string ⟨#[]⟩, .string ⟨#[]⟩, .string ⟨#[]⟩, .string ⟨#[]⟩] 25)).alloc (.cells #[.string ⟨#[110, 44, 44]⟩, .string ⟨#[]⟩, .string ⟨#[]⟩, .string ⟨#[]⟩] 25)) (.string ⟨#[110, 44, 44]⟩) (.string ⟨#[]⟩) (.string ⟨#[]⟩) (.string ⟨#[]⟩) := B3.start hb1 hR1 hz1
  have hz2 : (W1.alloc (.cells #[.string ⟨#[]⟩, .string ⟨#[]⟩, .string ⟨#[]⟩, .string ⟨#[]⟩] 25)).heap.size = w.heap.size + 2 := by simp [hz1]
  clear hb1 hR1
  have hz := size_tx L
  have hd : ¬ ((L.length : Int) > 1024) := by omega
  have c1 := (starts_ok hh ((W1.alloc (.cells #[.string ⟨#[]⟩, .string ⟨#[]⟩, .string ⟨#[]⟩, .string ⟨#[]⟩] 25)).alloc (.cells #[.string ⟨#[110, 44, 44]⟩, .string ⟨#[]⟩, .string ⟨#[]⟩, .string ⟨#[]⟩] 25)) (by omega) (by simp)).mono (fun e w' q => (And.intro q.1 (q.2 ▸ hB3) : _ ∧ B3 w w' (.string ⟨#[110, 44, 44]⟩) (.string ⟨#[]⟩) (.string ⟨#[]⟩) (.string ⟨#[]⟩)))
  clear hB3
  have hlb := sgn_len hh
  have hlr := sgn_len h1
  have cN := fun w => starts_ok h1 w (by omega) (by simp)
  obtain ⟨k, hk⟩ : ∃ k, ix 44 r = k := ⟨_, rfl⟩
  have h2' := h2
  rw [hk] at h2'
  have cA := fun w => at_ok hk h2' w (by omega)
  have hx := take_tx r k
  have hy := drop_tx r k
  have hzr := size_tx r
  rw [show r.take k = prt r by unfold prt; rw [hk]] at hx
  rw [show r.drop k = rst r by unfold rst; rw [hk]] at hy
  have k0 : (k : Int) ≤ (r.length : Int) := by omega
  have hlp : (prt r).length ≤ r.length := by unfold prt; rw [List.length_take]; omega
  have hls := rst_len r
  have cP := fun (u : World) (g0 g3 : Value) (hB : B3 w u g0 (.string ⟨#[]⟩) (.string ⟨#[]⟩) g3) => (plain_any (prt r) u (by omega)).mono (fun e w' q => (And.intro q.1 (q.2 ▸ hB) : _ ∧ B3 w w' g0 (.string ⟨#[]⟩) (.string ⟨#[]⟩) g3))
  rw [h3] at cP
  have hl2 := sgn_len h4
  have cR := fun (u : World) (g0 g1 g3 : Value) (hB : B3 w u g0 g1 (.string ⟨#[]⟩) g3) => (starts_ok h4 u (by omega) (by simp)).mono (fun e w' q => (And.intro q.1 (q.2 ▸ hB) : _ ∧ B3 w w' g0 g1 (.string ⟨#[]⟩) g3))
  have cO := fun w => refNonce_any r2 128 w (by omega) (by omega)
  rw [h5] at cO
  obtain ⟨n, Hn⟩ : ∃ n, Hid (r.length = n) := ⟨_, rfl⟩
  rw [Hn.out] at hy hzr k0
  clear h1 h2 h2' h3 hk hh
  clear h4
  have tk1 : True := trivial
  go_enter Tryd.func6, Tryd.ntmps6
  go_wp2_with (first
    | (clear tk1; go_at_call 17; refine c1.mono ?_; rintro e W3 ⟨rfl, hB3⟩; clear c1; have qhB5 := hB3.g.c3; have zhB5 := hB3.g.fz 3; have hB5 := hB3.s3 (.string ⟨b.toArray⟩))
    | (go_at_call 17; refine (cN _).mono ?_; rintro e wq ⟨rfl, rfl⟩)
    | (go_at_call 18; refine (cA _).mono ?_; rintro e wq ⟨rfl, rfl⟩))
  refine (cP _ _ _ hB5).mono ?_
  rintro e W5 ⟨⟨o, he, ho⟩, hB6⟩
  clear qhB5 zhB5 hB5
  rw [ho U rfl] at he
  subst he
  clear ho; have qhB7 := hB6.g.c1; have zhB7 := hB6.g.fz 1; have hB7 := hB6.s1 (.string ⟨U.toArray⟩)
  clear hB6 cP cN cA
  go_wp2_with (first
    | (go_at_call 17; refine (cR _ _ _ _ hB7).mono ?_; rintro e W8 ⟨rfl, hB8⟩; clear qhB7 zhB7 hB7 cR; have qhB9 := hB8.g.c2; have zhB9 := hB8.g.fz 2; have hB9 := hB8.s2 (.string ⟨r2.toArray⟩); have gl2 := hB9.g.c2; have hBE := hB9; have rc0 := hBE.r.c0; have rf0 := hBE.r.fz 0; have nc0 := hBE.n.c0; have rc1 := hBE.r.c1; have rf1 := hBE.r.fz 1; have nc1 := hBE.n.c1; have rc2 := hBE.r.c2; have rf2 := hBE.r.fz 2; have nc2 := hBE.n.c2; have rc3 := hBE.r.c3; have rf3 := hBE.r.fz 3; have nc3 := hBE.n.c3)
    | (go_at_call 20; refine (cO _).mono ?_; rintro e wq ⟨rfl, rfl⟩))
  have hF := (((hBE.r.s0 (.string ⟨#[]⟩)).s1 (.string ⟨#[]⟩)).s2 (.string ⟨#[]⟩)).s3 (.string ⟨#[]⟩)
  have d0 := hF.c0
  have d1 := hF.c1
  have d2 := hF.c2
  have d3 := hF.c3
  refine bodyPost_ret (v := .tuple #[.agg #[.string ⟨#[]⟩, .string ⟨#[]⟩, .string ⟨#[]⟩, .string ⟨#[]⟩], .int .i64 2]) (by simp [results, Tryd.results6, go_sem, d0, d1, d2, d3]) rfl ⟨rfl, ?_⟩
  exact (((hBE.b.setCell (p := ⟨w.heap.size, 0, none⟩) (Nat.le_refl _) _).setCell (p := ⟨w.heap.size, 1, none⟩) (Nat.le_refl _) _).setCell (p := ⟨w.heap.size, 2, none⟩) (Nat.le_refl _) _).setCell (p := ⟨w.heap.size, 3, none⟩) (Nat.le_refl _) _

set_option maxHeartbeats 4000000 in
set_option maxRecDepth 100000 in
theorem refFirst_n6 (L : Tx) (w : World) (hl : L.length ≤ 1024) (b : Tx) (hh : sgn [110, 44, 44] L = some b) (r : Tx) (h1 : sgn [110, 61] b = some r) (h2 : ix 44 r < r.length) (U : Tx) (h3 : nameO (prt r) = some U) (r2 : Tx) (h4 : sgn [44, 114, 61] (rst r) = some r2) (h5 : nonceB 128 r2 = true) : Calls Tryd.prog 6 #[.string ⟨L.toArray⟩] w fun e w' => e = .returned (.tuple #[.agg #[.string ⟨#[110, 44, 44]⟩, .string ⟨U.toArray⟩, .string ⟨r2.toArray⟩, .string ⟨b.toArray⟩], .int .i64 0]) ∧ Below w.heap.size w w' := by
  have hb1 : Below w.heap.size w (w.alloc (.cells #[.string ⟨#[]⟩, .string ⟨#[]⟩, .string ⟨#[]⟩, .string ⟨#[]⟩] 25)) := (Below.refl _ _).alloc (Nat.le_refl _) _
  have hR1 : FAt (w.alloc (.cells #[.string ⟨#[]⟩, .string ⟨#[]⟩, .string ⟨#[]⟩, .string ⟨#[]⟩] 25)) w.heap.size (.string ⟨#[]⟩) (.string ⟨#[]⟩) (.string ⟨#[]⟩) (.string ⟨#[]⟩) := heap_alloc_new w _
  have hz1 : (w.alloc (.cells #[.string ⟨#[]⟩, .string ⟨#[]⟩, .string ⟨#[]⟩, .string ⟨#[]⟩] 25)).heap.size = w.heap.size + 1 := by simp
  generalize hW1 : w.alloc (.cells #[.string ⟨#[]⟩, .string ⟨#[]⟩, .string ⟨#[]⟩, .string ⟨#[]⟩] 25) = W1 at hb1 hR1 hz1
  have hB3 : B3 w ((W1.alloc (.cells #[.string ⟨#[]⟩, .string ⟨#[]⟩, .string ⟨#[]⟩, .string ⟨#[]⟩] 25)).alloc (.cells #[.string ⟨#[110, 44, 44]⟩, .string ⟨#[]⟩, .string ⟨#[]⟩, .string ⟨#[]⟩] 25)) (.string ⟨#[110, 44, 44]⟩) (.string ⟨#[]⟩) (.string ⟨#[]⟩) (.string ⟨#[]⟩) := B3.start hb1 hR1 hz1
  have hz2 : (W1.alloc (.cells #[.string ⟨#[]⟩, .string ⟨#[]⟩, .string ⟨#[]⟩, .string ⟨#[]⟩] 25)).heap.size = w.heap.size + 2 := by simp [hz1]
  clear hb1 hR1
  have hz := size_tx L
  have hd : ¬ ((L.length : Int) > 1024) := by omega
  have c1 := (starts_ok hh ((W1.alloc (.cells #[.string ⟨#[]⟩, .string ⟨#[]⟩, .string ⟨#[]⟩, .string ⟨#[]⟩] 25)).alloc (.cells #[.string ⟨#[110, 44, 44]⟩, .string ⟨#[]⟩, .string ⟨#[]⟩, .string ⟨#[]⟩] 25)) (by omega) (by simp)).mono (fun e w' q => (And.intro q.1 (q.2 ▸ hB3) : _ ∧ B3 w w' (.string ⟨#[110, 44, 44]⟩) (.string ⟨#[]⟩) (.string ⟨#[]⟩) (.string ⟨#[]⟩)))
  clear hB3
  have hlb := sgn_len hh
  have hlr := sgn_len h1
  have cN := fun w => starts_ok h1 w (by omega) (by simp)
  obtain ⟨k, hk⟩ : ∃ k, ix 44 r = k := ⟨_, rfl⟩
  have h2' := h2
  rw [hk] at h2'
  have cA := fun w => at_ok hk h2' w (by omega)
  have hx := take_tx r k
  have hy := drop_tx r k
  have hzr := size_tx r
  rw [show r.take k = prt r by unfold prt; rw [hk]] at hx
  rw [show r.drop k = rst r by unfold rst; rw [hk]] at hy
  have k0 : (k : Int) ≤ (r.length : Int) := by omega
  have hlp : (prt r).length ≤ r.length := by unfold prt; rw [List.length_take]; omega
  have hls := rst_len r
  have cP := fun (u : World) (g0 g3 : Value) (hB : B3 w u g0 (.string ⟨#[]⟩) (.string ⟨#[]⟩) g3) => (plain_any (prt r) u (by omega)).mono (fun e w' q => (And.intro q.1 (q.2 ▸ hB) : _ ∧ B3 w w' g0 (.string ⟨#[]⟩) (.string ⟨#[]⟩) g3))
  rw [h3] at cP
  have hl2 := sgn_len h4
  have cR := fun (u : World) (g0 g1 g3 : Value) (hB : B3 w u g0 g1 (.string ⟨#[]⟩) g3) => (starts_ok h4 u (by omega) (by simp)).mono (fun e w' q => (And.intro q.1 (q.2 ▸ hB) : _ ∧ B3 w w' g0 g1 (.string ⟨#[]⟩) g3))
  have cO := fun w => refNonce_any r2 128 w (by omega) (by omega)
  rw [h5] at cO
  obtain ⟨n, Hn⟩ : ∃ n, Hid (r.length = n) := ⟨_, rfl⟩
  rw [Hn.out] at hy hzr k0
  clear h1 h2 h2' h3 hk hh
  clear h4
  have tk1 : True := trivial
  go_enter Tryd.func6, Tryd.ntmps6
  go_wp2_with (first
    | (clear tk1; go_at_call 17; refine c1.mono ?_; rintro e W3 ⟨rfl, hB3⟩; clear c1; have qhB5 := hB3.g.c3; have zhB5 := hB3.g.fz 3; have hB5 := hB3.s3 (.string ⟨b.toArray⟩))
    | (go_at_call 17; refine (cN _).mono ?_; rintro e wq ⟨rfl, rfl⟩)
    | (go_at_call 18; refine (cA _).mono ?_; rintro e wq ⟨rfl, rfl⟩))
  refine (cP _ _ _ hB5).mono ?_
  rintro e W5 ⟨⟨o, he, ho⟩, hB6⟩
  clear qhB5 zhB5 hB5
  rw [ho U rfl] at he
  subst he
  clear ho; have qhB7 := hB6.g.c1; have zhB7 := hB6.g.fz 1; have hB7 := hB6.s1 (.string ⟨U.toArray⟩)
  clear hB6 cP cN cA
  go_wp2_with (first
    | (go_at_call 17; refine (cR _ _ _ _ hB7).mono ?_; rintro e W8 ⟨rfl, hB8⟩; clear qhB7 zhB7 hB7 cR; have qhB9 := hB8.g.c2; have zhB9 := hB8.g.fz 2; have hB9 := hB8.s2 (.string ⟨r2.toArray⟩); have gl2 := hB9.g.c2; have hBE := hB9; have rc0 := hBE.r.c0; have rf0 := hBE.r.fz 0; have nc0 := hBE.g.c0; have rc1 := hBE.r.c1; have rf1 := hBE.r.fz 1; have nc1 := hBE.g.c1; have rc2 := hBE.r.c2; have rf2 := hBE.r.fz 2; have nc2 := hBE.g.c2; have rc3 := hBE.r.c3; have rf3 := hBE.r.fz 3; have nc3 := hBE.g.c3)
    | (go_at_call 20; refine (cO _).mono ?_; rintro e wq ⟨rfl, rfl⟩))
  have hF := (((hBE.r.s0 (.string ⟨#[110, 44, 44]⟩)).s1 (.string ⟨U.toArray⟩)).s2 (.string ⟨r2.toArray⟩)).s3 (.string ⟨b.toArray⟩)
  have d0 := hF.c0
  have d1 := hF.c1
  have d2 := hF.c2
  have d3 := hF.c3
  refine bodyPost_ret (v := .tuple #[.agg #[.string ⟨#[110, 44, 44]⟩, .string ⟨U.toArray⟩, .string ⟨r2.toArray⟩, .string ⟨b.toArray⟩], .int .i64 0]) (by simp [results, Tryd.results6, go_sem, d0, d1, d2, d3]) rfl ⟨rfl, ?_⟩
  exact (((hBE.b.setCell (p := ⟨w.heap.size, 0, none⟩) (Nat.le_refl _) _).setCell (p := ⟨w.heap.size, 1, none⟩) (Nat.le_refl _) _).setCell (p := ⟨w.heap.size, 2, none⟩) (Nat.le_refl _) _).setCell (p := ⟨w.heap.size, 3, none⟩) (Nat.le_refl _) _

set_option maxHeartbeats 4000000 in
set_option maxRecDepth 100000 in
theorem refFirst_y1 (L : Tx) (w : World) (hl : L.length ≤ 1024) (b : Tx) (hh0 : sgn [110, 44, 44] L = none) (hh : sgn [121, 44, 44] L = some b) (h1 : sgn [110, 61] b = none) : Calls Tryd.prog 6 #[.string ⟨L.toArray⟩] w fun e w' => e = .returned (.tuple #[.agg #[.string ⟨#[]⟩, .string ⟨#[]⟩, .string ⟨#[]⟩, .string ⟨#[]⟩], .int .i64 2]) ∧ Below w.heap.size w w' := by
  have hb1 : Below w.heap.size w (w.alloc (.cells #[.string ⟨#[]⟩, .string ⟨#[]⟩, .string ⟨#[]⟩, .string ⟨#[]⟩] 25)) := (Below.refl _ _).alloc (Nat.le_refl _) _
  have hR1 : FAt (w.alloc (.cells #[.string ⟨#[]⟩, .string ⟨#[]⟩, .string ⟨#[]⟩, .string ⟨#[]⟩] 25)) w.heap.size (.string ⟨#[]⟩) (.string ⟨#[]⟩) (.string ⟨#[]⟩) (.string ⟨#[]⟩) := heap_alloc_new w _
  have hz1 : (w.alloc (.cells #[.string ⟨#[]⟩, .string ⟨#[]⟩, .string ⟨#[]⟩, .string ⟨#[]⟩] 25)).heap.size = w.heap.size + 1 := by simp
  generalize hW1 : w.alloc (.cells #[.string ⟨#[]⟩, .string ⟨#[]⟩, .string ⟨#[]⟩, .string ⟨#[]⟩] 25) = W1 at hb1 hR1 hz1
  have hB3 : B3 w ((W1.alloc (.cells #[.string ⟨#[]⟩, .string ⟨#[]⟩, .string ⟨#[]⟩, .string ⟨#[]⟩] 25)).alloc (.cells #[.string ⟨#[110, 44, 44]⟩, .string ⟨#[]⟩, .string ⟨#[]⟩, .string ⟨#[]⟩] 25)) (.string ⟨#[110, 44, 44]⟩) (.string ⟨#[]⟩) (.string ⟨#[]⟩) (.string ⟨#[]⟩) := B3.start hb1 hR1 hz1
  have hz2 : (W1.alloc (.cells #[.string ⟨#[]⟩, .string ⟨#[]⟩, .string ⟨#[]⟩, .string ⟨#[]⟩] 25)).heap.size = w.heap.size + 2 := by simp [hz1]
  clear hb1 hR1
  have hz := size_tx L
  have hd : ¬ ((L.length : Int) > 1024) := by omega
  have c1 := (starts_no hh0 ((W1.alloc (.cells #[.string ⟨#[]⟩, .string ⟨#[]⟩, .string ⟨#[]⟩, .string ⟨#[]⟩] 25)).alloc (.cells #[.string ⟨#[110, 44, 44]⟩, .string ⟨#[]⟩, .string ⟨#[]⟩, .string ⟨#[]⟩] 25)) (by omega) (by simp)).mono (fun e w' q => (And.intro q.1 (q.2 ▸ hB3) : _ ∧ B3 w w' (.string ⟨#[110, 44, 44]⟩) (.string ⟨#[]⟩) (.string ⟨#[]⟩) (.string ⟨#[]⟩)))
  clear hB3
  have cH := fun w => starts_ok hh w (by omega) (by simp)
  have hlb := sgn_len hh
  have cN := fun w => starts_no h1 w (by omega) (by simp)
  have cA := fun w => at_no (L := []) (c := 44) (by simp) w (by simp)
  have tk1 : True := trivial
  go_enter Tryd.func6, Tryd.ntmps6
  go_wp2_with (clear tk1; go_at_call 17; refine c1.mono ?_; rintro e W3 ⟨rfl, hB3⟩; clear c1; have qhB4 := hB3.g.c0; have zhB4 := hB3.g.fz 0; have hB4 := hB3.s0 (.string ⟨#[121, 44, 44]⟩); have hBE := hB4; have rc0 := hBE.r.c0; have rf0 := hBE.r.fz 0; have nc0 := hBE.n.c0; have rc1 := hBE.r.c1; have rf1 := hBE.r.fz 1; have nc1 := hBE.n.c1; have rc2 := hBE.r.c2; have rf2 := hBE.r.fz 2; have nc2 := hBE.n.c2; have rc3 := hBE.r.c3; have rf3 := hBE.r.fz 3; have nc3 := hBE.n.c3)
  refine (cH _).mono ?_
  rintro e wq ⟨rfl, rfl⟩
  clear cH
  go_wp2_with (first
    | (go_at_call 17; refine (cN _).mono ?_; rintro e wq ⟨rfl, rfl⟩)
    | (go_at_call 18; refine (cA _).mono ?_; rintro e wq ⟨rfl, rfl⟩))
  have hF := (((hBE.r.s0 (.string ⟨#[]⟩)).s1 (.string ⟨#[]⟩)).s2 (.string ⟨#[]⟩)).s3 (.string ⟨#[]⟩)
  have d0 := hF.c0
  have d1 := hF.c1
  have d2 := hF.c2
  have d3 := hF.c3
  refine bodyPost_ret (v := .tuple #[.agg #[.string ⟨#[]⟩, .string ⟨#[]⟩, .string ⟨#[]⟩, .string ⟨#[]⟩], .int .i64 2]) (by simp [results, Tryd.results6, go_sem, d0, d1, d2, d3]) rfl ⟨rfl, ?_⟩
  exact (((hBE.b.setCell (p := ⟨w.heap.size, 0, none⟩) (Nat.le_refl _) _).setCell (p := ⟨w.heap.size, 1, none⟩) (Nat.le_refl _) _).setCell (p := ⟨w.heap.size, 2, none⟩) (Nat.le_refl _) _).setCell (p := ⟨w.heap.size, 3, none⟩) (Nat.le_refl _) _

set_option maxHeartbeats 4000000 in
set_option maxRecDepth 100000 in
theorem refFirst_y2 (L : Tx) (w : World) (hl : L.length ≤ 1024) (b : Tx) (hh0 : sgn [110, 44, 44] L = none) (hh : sgn [121, 44, 44] L = some b) (r : Tx) (h1 : sgn [110, 61] b = some r) (h2 : ¬ ix 44 r < r.length) : Calls Tryd.prog 6 #[.string ⟨L.toArray⟩] w fun e w' => e = .returned (.tuple #[.agg #[.string ⟨#[]⟩, .string ⟨#[]⟩, .string ⟨#[]⟩, .string ⟨#[]⟩], .int .i64 2]) ∧ Below w.heap.size w w' := by
  have hb1 : Below w.heap.size w (w.alloc (.cells #[.string ⟨#[]⟩, .string ⟨#[]⟩, .string ⟨#[]⟩, .string ⟨#[]⟩] 25)) := (Below.refl _ _).alloc (Nat.le_refl _) _
  have hR1 : FAt (w.alloc (.cells #[.string ⟨#[]⟩, .string ⟨#[]⟩, .string ⟨#[]⟩, .string ⟨#[]⟩] 25)) w.heap.size (.string ⟨#[]⟩) (.string ⟨#[]⟩) (.string ⟨#[]⟩) (.string ⟨#[]⟩) := heap_alloc_new w _
  have hz1 : (w.alloc (.cells #[.string ⟨#[]⟩, .string ⟨#[]⟩, .string ⟨#[]⟩, .string ⟨#[]⟩] 25)).heap.size = w.heap.size + 1 := by simp
  generalize hW1 : w.alloc (.cells #[.string ⟨#[]⟩, .string ⟨#[]⟩, .string ⟨#[]⟩, .string ⟨#[]⟩] 25) = W1 at hb1 hR1 hz1
  have hB3 : B3 w ((W1.alloc (.cells #[.string ⟨#[]⟩, .string ⟨#[]⟩, .string ⟨#[]⟩, .string ⟨#[]⟩] 25)).alloc (.cells #[.string ⟨#[110, 44, 44]⟩, .string ⟨#[]⟩, .string ⟨#[]⟩, .string ⟨#[]⟩] 25)) (.string ⟨#[110, 44, 44]⟩) (.string ⟨#[]⟩) (.string ⟨#[]⟩) (.string ⟨#[]⟩) := B3.start hb1 hR1 hz1
  have hz2 : (W1.alloc (.cells #[.string ⟨#[]⟩, .string ⟨#[]⟩, .string ⟨#[]⟩, .string ⟨#[]⟩] 25)).heap.size = w.heap.size + 2 := by simp [hz1]
  clear hb1 hR1
  have hz := size_tx L
  have hd : ¬ ((L.length : Int) > 1024) := by omega
  have c1 := (starts_no hh0 ((W1.alloc (.cells #[.string ⟨#[]⟩, .string ⟨#[]⟩, .string ⟨#[]⟩, .string ⟨#[]⟩] 25)).alloc (.cells #[.string ⟨#[110, 44, 44]⟩, .string ⟨#[]⟩, .string ⟨#[]⟩, .string ⟨#[]⟩] 25)) (by omega) (by simp)).mono (fun e w' q => (And.intro q.1 (q.2 ▸ hB3) : _ ∧ B3 w w' (.string ⟨#[110, 44, 44]⟩) (.string ⟨#[]⟩) (.string ⟨#[]⟩) (.string ⟨#[]⟩)))
  clear hB3
  have cH := fun w => starts_ok hh w (by omega) (by simp)
  have hlb := sgn_len hh
  have hlr := sgn_len h1
  have cN := fun w => starts_ok h1 w (by omega) (by simp)
  have cA := fun w => at_no h2 w (by omega)
  have tk1 : True := trivial
  go_enter Tryd.func6, Tryd.ntmps6
  go_wp2_with (clear tk1; go_at_call 17; refine c1.mono ?_; rintro e W3 ⟨rfl, hB3⟩; clear c1; have qhB4 := hB3.g.c0; have zhB4 := hB3.g.fz 0; have hB4 := hB3.s0 (.string ⟨#[121, 44, 44]⟩); have hBE := hB4; have rc0 := hBE.r.c0; have rf0 := hBE.r.fz 0; have nc0 := hBE.n.c0; have rc1 := hBE.r.c1; have rf1 := hBE.r.fz 1; have nc1 := hBE.n.c1; have rc2 := hBE.r.c2; have rf2 := hBE.r.fz 2; have nc2 := hBE.n.c2; have rc3 := hBE.r.c3; have rf3 := hBE.r.fz 3; have nc3 := hBE.n.c3)
  refine (cH _).mono ?_
  rintro e wq ⟨rfl, rfl⟩
  clear cH
  go_wp2_with (first
    | (go_at_call 17; refine (cN _).mono ?_; rintro e wq ⟨rfl, rfl⟩)
    | (go_at_call 18; refine (cA _).mono ?_; rintro e wq ⟨rfl, rfl⟩))
  have hF := (((hBE.r.s0 (.string ⟨#[]⟩)).s1 (.string ⟨#[]⟩)).s2 (.string ⟨#[]⟩)).s3 (.string ⟨#[]⟩)
  have d0 := hF.c0
  have d1 := hF.c1
  have d2 := hF.c2
  have d3 := hF.c3
  refine bodyPost_ret (v := .tuple #[.agg #[.string ⟨#[]⟩, .string ⟨#[]⟩, .string ⟨#[]⟩, .string ⟨#[]⟩], .int .i64 2]) (by simp [results, Tryd.results6, go_sem, d0, d1, d2, d3]) rfl ⟨rfl, ?_⟩
  exact (((hBE.b.setCell (p := ⟨w.heap.size, 0, none⟩) (Nat.le_refl _) _).setCell (p := ⟨w.heap.size, 1, none⟩) (Nat.le_refl _) _).setCell (p := ⟨w.heap.size, 2, none⟩) (Nat.le_refl _) _).setCell (p := ⟨w.heap.size, 3, none⟩) (Nat.le_refl _) _

set_option maxHeartbeats 4000000 in
set_option maxRecDepth 100000 in
theorem refFirst_y3 (L : Tx) (w : World) (hl : L.length ≤ 1024) (b : Tx) (hh0 : sgn [110, 44, 44] L = none) (hh : sgn [121, 44, 44] L = some b) (r : Tx) (h1 : sgn [110, 61] b = some r) (h2 : ix 44 r < r.length) (h3 : nameO (prt r) = none) : Calls Tryd.prog 6 #[.string ⟨L.toArray⟩] w fun e w' => e = .returned (.tuple #[.agg #[.string ⟨#[]⟩, .string ⟨#[]⟩, .string ⟨#[]⟩, .string ⟨#[]⟩], .int .i64 2]) ∧ Below w.heap.size w w' := by
  have hb1 : Below w.heap.size w (w.alloc (.cells #[.string ⟨#[]⟩, .string ⟨#[]⟩, .string ⟨#[]⟩, .string ⟨#[]⟩] 25)) := (Below.refl _ _).alloc (Nat.le_refl _) _
  have hR1 : FAt (w.alloc (.cells #[.string ⟨#[]⟩, .string ⟨#[]⟩, .string ⟨#[]⟩, .string ⟨#[]⟩] 25)) w.heap.size (.string ⟨#[]⟩) (.string ⟨#[]⟩) (.string ⟨#[]⟩) (.string ⟨#[]⟩) := heap_alloc_new w _
  have hz1 : (w.alloc (.cells #[.string ⟨#[]⟩, .string ⟨#[]⟩, .string ⟨#[]⟩, .string ⟨#[]⟩] 25)).heap.size = w.heap.size + 1 := by simp
  generalize hW1 : w.alloc (.cells #[.string ⟨#[]⟩, .string ⟨#[]⟩, .string ⟨#[]⟩, .string ⟨#[]⟩] 25) = W1 at hb1 hR1 hz1
  have hB3 : B3 w ((W1.alloc (.cells #[.string ⟨#[]⟩, .string ⟨#[]⟩, .string ⟨#[]⟩, .string ⟨#[]⟩] 25)).alloc (.cells #[.string ⟨#[110, 44, 44]⟩, .string ⟨#[]⟩, .string ⟨#[]⟩, .string ⟨#[]⟩] 25)) (.string ⟨#[110, 44, 44]⟩) (.string ⟨#[]⟩) (.string ⟨#[]⟩) (.string ⟨#[]⟩) := B3.start hb1 hR1 hz1
  have hz2 : (W1.alloc (.cells #[.string ⟨#[]⟩, .string ⟨#[]⟩, .string ⟨#[]⟩, .string ⟨#[]⟩] 25)).heap.size = w.heap.size + 2 := by simp [hz1]
  clear hb1 hR1
  have hz := size_tx L
  have hd : ¬ ((L.length : Int) > 1024) := by omega
  have c1 := (starts_no hh0 ((W1.alloc (.cells #[.string ⟨#[]⟩, .string ⟨#[]⟩, .string ⟨#[]⟩, .string ⟨#[]⟩] 25)).alloc (.cells #[.string ⟨#[110, 44, 44]⟩, .string ⟨#[]⟩, .string ⟨#[]⟩, .string ⟨#[]⟩] 25)) (by omega) (by simp)).mono (fun e w' q => (And.intro q.1 (q.2 ▸ hB3) : _ ∧ B3 w w' (.string ⟨#[110, 44, 44]⟩) (.string ⟨#[]⟩) (.string ⟨#[]⟩) (.string ⟨#[]⟩)))
  clear hB3
  have cH := fun w => starts_ok hh w (by omega) (by simp)
  have hlb := sgn_len hh
  have hlr := sgn_len h1
  have cN := fun w => starts_ok h1 w (by omega) (by simp)
  obtain ⟨k, hk⟩ : ∃ k, ix 44 r = k := ⟨_, rfl⟩
  have h2' := h2
  rw [hk] at h2'
  have cA := fun w => at_ok hk h2' w (by omega)
  have hx := take_tx r k
  have hy := drop_tx r k
  have hzr := size_tx r
  rw [show r.take k = prt r by unfold prt; rw [hk]] at hx
  rw [show r.drop k = rst r by unfold rst; rw [hk]] at hy
  have k0 : (k : Int) ≤ (r.length : Int) := by omega
  have hlp : (prt r).length ≤ r.length := by unfold prt; rw [List.length_take]; omega
  have hls := rst_len r
  have cP := fun (u : World) (g0 g3 : Value) (hB : B3 w u g0 (.string ⟨#[]⟩) (.string ⟨#[]⟩) g3) => (plain_any (prt r) u (by omega)).mono (fun e w' q => (And.intro q.1 (q.2 ▸ hB) : _ ∧ B3 w w' g0 (.string ⟨#[]⟩) (.string ⟨#[]⟩) g3))
  rw [h3] at cP
  have cR := fun (u : World) (g0 g1 g3 : Value) (hB : B3 w u g0 g1 (.string ⟨#[]⟩) g3) => (starts_any (rst r) [44, 114, 61] u (by omega) (by simp)).mono (fun e w' q => (And.intro q.1 (q.2 ▸ hB) : _ ∧ B3 w w' g0 g1 (.string ⟨#[]⟩) g3))
  obtain ⟨sv, hsv⟩ : ∃ v, ((sgn [44, 114, 61] (rst r)).getD []) = v := ⟨_, rfl⟩
  obtain ⟨sb, hsb⟩ : ∃ v, (sgn [44, 114, 61] (rst r)).isSome = v := ⟨_, rfl⟩
  rw [hsv, hsb] at cR
  obtain ⟨n, Hn⟩ : ∃ n, Hid (r.length = n) := ⟨_, rfl⟩
  rw [Hn.out] at hy hzr k0
  clear h1 h2 h2' h3 hk hh
  have tk1 : True := trivial
  go_enter Tryd.func6, Tryd.ntmps6
  go_wp2_with (clear tk1; go_at_call 17; refine c1.mono ?_; rintro e W3 ⟨rfl, hB3⟩; clear c1; have qhB4 := hB3.g.c0; have zhB4 := hB3.g.fz 0; have hB4 := hB3.s0 (.string ⟨#[121, 44, 44]⟩))
  refine (cH _).mono ?_
  rintro e wq ⟨rfl, rfl⟩
  clear cH
  clear qhB4 zhB4; have qhB5 := hB4.g.c3; have zhB5 := hB4.g.fz 3; have hB5 := hB4.s3 (.string ⟨b.toArray⟩)
  go_wp2_with (first
    | (go_at_call 17; refine (cN _).mono ?_; rintro e wq ⟨rfl, rfl⟩)
    | (go_at_call 18; refine (cA _).mono ?_; rintro e wq ⟨rfl, rfl⟩))
  refine (cP _ _ _ hB5).mono ?_
  rintro e W5 ⟨⟨o, he, ho⟩, hB6⟩
  clear qhB5 zhB5 hB5
  subst he
  clear ho; have qhB7 := hB6.g.c1; have zhB7 := hB6.g.fz 1; have hB7 := hB6.s1 (.string ⟨o.toArray⟩)
  clear hB6 cP cN cA
  go_wp2_with (first
    | (go_at_call 17; refine (cR _ _ _ _ hB7).mono ?_; rintro e W8 ⟨rfl, hB8⟩; clear qhB7 zhB7 hB7 cR; have qhB9 := hB8.g.c2; have zhB9 := hB8.g.fz 2; have hB9 := hB8.s2 (.string ⟨sv.toArray⟩); have hBE := hB9; have rc0 := hBE.r.c0; have rf0 := hBE.r.fz 0; have nc0 := hBE.n.c0; have rc1 := hBE.r.c1; have rf1 := hBE.r.fz 1; have nc1 := hBE.n.c1; have rc2 := hBE.r.c2; have rf2 := hBE.r.fz 2; have nc2 := hBE.n.c2; have rc3 := hBE.r.c3; have rf3 := hBE.r.fz 3; have nc3 := hBE.n.c3))
  have hF := (((hBE.r.s0 (.string ⟨#[]⟩)).s1 (.string ⟨#[]⟩)).s2 (.string ⟨#[]⟩)).s3 (.string ⟨#[]⟩)
  have d0 := hF.c0
  have d1 := hF.c1
  have d2 := hF.c2
  have d3 := hF.c3
  refine bodyPost_ret (v := .tuple #[.agg #[.string ⟨#[]⟩, .string ⟨#[]⟩, .string ⟨#[]⟩, .string ⟨#[]⟩], .int .i64 2]) (by simp [results, Tryd.results6, go_sem, d0, d1, d2, d3]) rfl ⟨rfl, ?_⟩
  exact (((hBE.b.setCell (p := ⟨w.heap.size, 0, none⟩) (Nat.le_refl _) _).setCell (p := ⟨w.heap.size, 1, none⟩) (Nat.le_refl _) _).setCell (p := ⟨w.heap.size, 2, none⟩) (Nat.le_refl _) _).setCell (p := ⟨w.heap.size, 3, none⟩) (Nat.le_refl _) _

set_option maxHeartbeats 4000000 in
set_option maxRecDepth 100000 in
theorem refFirst_y4 (L : Tx) (w : World) (hl : L.length ≤ 1024) (b : Tx) (hh0 : sgn [110, 44, 44] L = none) (hh : sgn [121, 44, 44] L = some b) (r : Tx) (h1 : sgn [110, 61] b = some r) (h2 : ix 44 r < r.length) (U : Tx) (h3 : nameO (prt r) = some U) (h4 : sgn [44, 114, 61] (rst r) = none) : Calls Tryd.prog 6 #[.string ⟨L.toArray⟩] w fun e w' => e = .returned (.tuple #[.agg #[.string ⟨#[]⟩, .string ⟨#[]⟩, .string ⟨#[]⟩, .string ⟨#[]⟩], .int .i64 2]) ∧ Below w.heap.size w w' := by
  have hb1 : Below w.heap.size w (w.alloc (.cells #[.string ⟨#[]⟩, .string ⟨#[]⟩, .string ⟨#[]⟩, .string ⟨#[]⟩] 25)) := (Below.refl _ _).alloc (Nat.le_refl _) _
  have hR1 : FAt (w.alloc (.cells #[.string ⟨#[]⟩, .string ⟨#[]⟩, .string ⟨#[]⟩, .string ⟨#[]⟩] 25)) w.heap.size (.string ⟨#[]⟩) (.string ⟨#[]⟩) (.string ⟨#[]⟩) (.string ⟨#[]⟩) := heap_alloc_new w _
  have hz1 : (w.alloc (.cells #[.string ⟨#[]⟩, .string ⟨#[]⟩, .string ⟨#[]⟩, .string ⟨#[]⟩] 25)).heap.size = w.heap.size + 1 := by simp
  generalize hW1 : w.alloc (.cells #[.string ⟨#[]⟩, .string ⟨#[]⟩, .string ⟨#[]⟩, .string ⟨#[]⟩] 25) = W1 at hb1 hR1 hz1
  have hB3 : B3 w ((W1.alloc (.cells #[.string ⟨#[]⟩, .string ⟨#[]⟩, .string ⟨#[]⟩, .string ⟨#[]⟩] 25)).alloc (.cells #[.string ⟨#[110, 44, 44]⟩, .string ⟨#[]⟩, .string ⟨#[]⟩, .string ⟨#[]⟩] 25)) (.string ⟨#[110, 44, 44]⟩) (.string ⟨#[]⟩) (.string ⟨#[]⟩) (.string ⟨#[]⟩) := B3.start hb1 hR1 hz1
  have hz2 : (W1.alloc (.cells #[.string ⟨#[]⟩, .string ⟨#[]⟩, .string ⟨#[]⟩, .string ⟨#[]⟩] 25)).heap.size = w.heap.size + 2 := by simp [hz1]
  clear hb1 hR1
  have hz := size_tx L
  have hd : ¬ ((L.length : Int) > 1024) := by omega
  have c1 := (starts_no hh0 ((W1.alloc (.cells #[.string ⟨#[]⟩, .string ⟨#[]⟩, .string ⟨#[]⟩, .string ⟨#[]⟩] 25)).alloc (.cells #[.string ⟨#[110, 44, 44]⟩, .string ⟨#[]⟩, .string ⟨#[]⟩, .string ⟨#[]⟩] 25)) (by omega) (by simp)).mono (fun e w' q => (And.intro q.1 (q.2 ▸ hB3) : _ ∧ B3 w w' (.string ⟨#[110, 44, 44]⟩) (.string ⟨#[]⟩) (.string ⟨#[]⟩) (.string ⟨#[]⟩)))
  clear hB3
  have cH := fun w => starts_ok hh w (by omega) (by simp)
  have hlb := sgn_len hh
  have hlr := sgn_len h1
  have cN := fun w => starts_ok h1 w (by omega) (by simp)
  obtain ⟨k, hk⟩ : ∃ k, ix 44 r = k := ⟨_, rfl⟩
  have h2' := h2
  rw [hk] at h2'
  have cA := fun w => at_ok hk h2' w (by omega)
  have hx := take_tx r k
  have hy := drop_tx r k
  have hzr := size_tx r
  rw [show r.take k = prt r by unfold prt; rw [hk]] at hx
  rw [show r.drop k = rst r by unfold rst; rw [hk]] at hy
  have k0 : (k : Int) ≤ (r.length : Int) := by omega
  have hlp : (prt r).length ≤ r.length := by unfold prt; rw [List.length_take]; omega
  have hls := rst_len r
  have cP := fun (u : World) (g0 g3 : Value) (hB : B3 w u g0 (.string ⟨#[]⟩) (.string ⟨#[]⟩) g3) => (plain_any (prt r) u (by omega)).mono (fun e w' q => (And.intro q.1 (q.2 ▸ hB) : _ ∧ B3 w w' g0 (.string ⟨#[]⟩) (.string ⟨#[]⟩) g3))
  rw [h3] at cP
  have cR := fun (u : World) (g0 g1 g3 : Value) (hB : B3 w u g0 g1 (.string ⟨#[]⟩) g3) => (starts_no h4 u (by omega) (by simp)).mono (fun e w' q => (And.intro q.1 (q.2 ▸ hB) : _ ∧ B3 w w' g0 g1 (.string ⟨#[]⟩) g3))
  obtain ⟨n, Hn⟩ : ∃ n, Hid (r.length = n) := ⟨_, rfl⟩
  rw [Hn.out] at hy hzr k0
  clear h1 h2 h2' h3 hk hh
  clear h4
  have tk1 : True := trivial
  go_enter Tryd.func6, Tryd.ntmps6
  go_wp2_with (clear tk1; go_at_call 17; refine c1.mono ?_; rintro e W3 ⟨rfl, hB3⟩; clear c1; have qhB4 := hB3.g.c0; have zhB4 := hB3.g.fz 0; have hB4 := hB3.s0 (.string ⟨#[121, 44, 44]⟩))
  refine (cH _).mono ?_
  rintro e wq ⟨rfl, rfl⟩
  clear cH
  clear qhB4 zhB4; have qhB5 := hB4.g.c3; have zhB5 := hB4.g.fz 3; have hB5 := hB4.s3 (.string ⟨b.toArray⟩)
  go_wp2_with (first
    | (go_at_call 17; refine (cN _).mono ?_; rintro e wq ⟨rfl, rfl⟩)
    | (go_at_call 18; refine (cA _).mono ?_; rintro e wq ⟨rfl, rfl⟩))
  refine (cP _ _ _ hB5).mono ?_
  rintro e W5 ⟨⟨o, he, ho⟩, hB6⟩
  clear qhB5 zhB5 hB5
  rw [ho U rfl] at he
  subst he
  clear ho; have qhB7 := hB6.g.c1; have zhB7 := hB6.g.fz 1; have hB7 := hB6.s1 (.string ⟨U.toArray⟩)
  clear hB6 cP cN cA
  go_wp2_with (first
    | (go_at_call 17; refine (cR _ _ _ _ hB7).mono ?_; rintro e W8 ⟨rfl, hB8⟩; clear qhB7 zhB7 hB7 cR; have qhB9 := hB8.g.c2; have zhB9 := hB8.g.fz 2; have hB9 := hB8.s2 (.string ⟨#[]⟩); have hBE := hB9; have rc0 := hBE.r.c0; have rf0 := hBE.r.fz 0; have nc0 := hBE.n.c0; have rc1 := hBE.r.c1; have rf1 := hBE.r.fz 1; have nc1 := hBE.n.c1; have rc2 := hBE.r.c2; have rf2 := hBE.r.fz 2; have nc2 := hBE.n.c2; have rc3 := hBE.r.c3; have rf3 := hBE.r.fz 3; have nc3 := hBE.n.c3))
  have hF := (((hBE.r.s0 (.string ⟨#[]⟩)).s1 (.string ⟨#[]⟩)).s2 (.string ⟨#[]⟩)).s3 (.string ⟨#[]⟩)
  have d0 := hF.c0
  have d1 := hF.c1
  have d2 := hF.c2
  have d3 := hF.c3
  refine bodyPost_ret (v := .tuple #[.agg #[.string ⟨#[]⟩, .string ⟨#[]⟩, .string ⟨#[]⟩, .string ⟨#[]⟩], .int .i64 2]) (by simp [results, Tryd.results6, go_sem, d0, d1, d2, d3]) rfl ⟨rfl, ?_⟩
  exact (((hBE.b.setCell (p := ⟨w.heap.size, 0, none⟩) (Nat.le_refl _) _).setCell (p := ⟨w.heap.size, 1, none⟩) (Nat.le_refl _) _).setCell (p := ⟨w.heap.size, 2, none⟩) (Nat.le_refl _) _).setCell (p := ⟨w.heap.size, 3, none⟩) (Nat.le_refl _) _

set_option maxHeartbeats 4000000 in
set_option maxRecDepth 100000 in
theorem refFirst_y5 (L : Tx) (w : World) (hl : L.length ≤ 1024) (b : Tx) (hh0 : sgn [110, 44, 44] L = none) (hh : sgn [121, 44, 44] L = some b) (r : Tx) (h1 : sgn [110, 61] b = some r) (h2 : ix 44 r < r.length) (U : Tx) (h3 : nameO (prt r) = some U) (r2 : Tx) (h4 : sgn [44, 114, 61] (rst r) = some r2) (h5 : nonceB 128 r2 = false) : Calls Tryd.prog 6 #[.string ⟨L.toArray⟩] w fun e w' => e = .returned (.tuple #[.agg #[.string ⟨#[]⟩, .string ⟨#[]⟩, .string ⟨#[]⟩, .string ⟨#[]⟩], .int .i64 2]) ∧ Below w.heap.size w w' := by
  have hb1 : Below w.heap.size w (w.alloc (.cells #[.string ⟨#[]⟩, .string ⟨#[]⟩, .string ⟨#[]⟩, .string ⟨#[]⟩] 25)) := (Below.refl _ _).alloc (Nat.le_refl _) _
  have hR1 : FAt (w.alloc (.cells #[.string ⟨#[]⟩, .string ⟨#[]⟩, .string ⟨#[]⟩, .string ⟨#[]⟩] 25)) w.heap.size (.string ⟨#[]⟩) (.string ⟨#[]⟩) (.string ⟨#[]⟩) (.string ⟨#[]⟩) := heap_alloc_new w _
  have hz1 : (w.alloc (.cells #[.string ⟨#[]⟩, .string ⟨#[]⟩, .string ⟨#[]⟩, .string ⟨#[]⟩] 25)).heap.size = w.heap.size + 1 := by simp
  generalize hW1 : w.alloc (.cells #[.string ⟨#[]⟩, .string ⟨#[]⟩, .string ⟨#[]⟩, .string ⟨#[]⟩] 25) = W1 at hb1 hR1 hz1
  have hB3 : B3 w ((W1.alloc (.cells #[.string ⟨#[]⟩, .string ⟨#[]⟩, .string ⟨#[]⟩, .string ⟨#[]⟩] 25)).alloc (.cells #[.string ⟨#[110, 44, 44]⟩, .string ⟨#[]⟩, .string ⟨#[]⟩, .string ⟨#[]⟩] 25)) (.string ⟨#[110, 44, 44]⟩) (.string ⟨#[]⟩) (.string ⟨#[]⟩) (.string ⟨#[]⟩) := B3.start hb1 hR1 hz1
  have hz2 : (W1.alloc (.cells #[.string ⟨#[]⟩, .string ⟨#[]⟩, .string ⟨#[]⟩, .string ⟨#[]⟩] 25)).heap.size = w.heap.size + 2 := by simp [hz1]
  clear hb1 hR1
  have hz := size_tx L
  have hd : ¬ ((L.length : Int) > 1024) := by omega
  have c1 := (starts_no hh0 ((W1.alloc (.cells #[.string ⟨#[]⟩, .string ⟨#[]⟩, .string ⟨#[]⟩, .string ⟨#[]⟩] 25)).alloc (.cells #[.string ⟨#[110, 44, 44]⟩, .string ⟨#[]⟩, .string ⟨#[]⟩, .string ⟨#[]⟩] 25)) (by omega) (by simp)).mono (fun e w' q => (And.intro q.1 (q.2 ▸ hB3) : _ ∧ B3 w w' (.string ⟨#[110, 44, 44]⟩) (.string ⟨#[]⟩) (.string ⟨#[]⟩) (.string ⟨#[]⟩)))
  clear hB3
  have cH := fun w => starts_ok hh w (by omega) (by simp)
  have hlb := sgn_len hh
  have hlr := sgn_len h1
  have cN := fun w => starts_ok h1 w (by omega) (by simp)
  obtain ⟨k, hk⟩ : ∃ k, ix 44 r = k := ⟨_, rfl⟩
  have h2' := h2
  rw [hk] at h2'
  have cA := fun w => at_ok hk h2' w (by omega)
  have hx := take_tx r k
  have hy := drop_tx r k
  have hzr := size_tx r
  rw [show r.take k = prt r by unfold prt; rw [hk]] at hx
  rw [show r.drop k = rst r by unfold rst; rw [hk]] at hy
  have k0 : (k : Int) ≤ (r.length : Int) := by omega
  have hlp : (prt r).length ≤ r.length := by unfold prt; rw [List.length_take]; omega
  have hls := rst_len r
  have cP := fun (u : World) (g0 g3 : Value) (hB : B3 w u g0 (.string ⟨#[]⟩) (.string ⟨#[]⟩) g3) => (plain_any (prt r) u (by omega)).mono (fun e w' q => (And.intro q.1 (q.2 ▸ hB) : _ ∧ B3 w w' g0 (.string ⟨#[]⟩) (.string ⟨#[]⟩) g3))
  rw [h3] at cP
  have hl2 := sgn_len h4
  have cR := fun (u : World) (g0 g1 g3 : Value) (hB : B3 w u g0 g1 (.string ⟨#[]⟩) g3) => (starts_ok h4 u (by omega) (by simp)).mono (fun e w' q => (And.intro q.1 (q.2 ▸ hB) : _ ∧ B3 w w' g0 g1 (.string ⟨#[]⟩) g3))
  have cO := fun w => refNonce_any r2 128 w (by omega) (by omega)
  rw [h5] at cO
  obtain ⟨n, Hn⟩ : ∃ n, Hid (r.length = n) := ⟨_, rfl⟩
  rw [Hn.out] at hy hzr k0
  clear h1 h2 h2' h3 hk hh
  clear h4
  have tk1 : True := trivial
  go_enter Tryd.func6, Tryd.ntmps6
  go_wp2_with (clear tk1; go_at_call 17; refine c1.mono ?_; rintro e W3 ⟨rfl, hB3⟩; clear c1; have qhB4 := hB3.g.c0; have zhB4 := hB3.g.fz 0; have hB4 := hB3.s0 (.string ⟨#[121, 44, 44]⟩))
  refine (cH _).mono ?_
  rintro e wq ⟨rfl, rfl⟩
  clear cH
  clear qhB4 zhB4; have qhB5 := hB4.g.c3; have zhB5 := hB4.g.fz 3; have hB5 := hB4.s3 (.string ⟨b.toArray⟩)
  go_wp2_with (first
    | (go_at_call 17; refine (cN _).mono ?_; rintro e wq ⟨rfl, rfl⟩)
    | (go_at_call 18; refine (cA _).mono ?_; rintro e wq ⟨rfl, rfl⟩))
  refine (cP _ _ _ hB5).mono ?_
  rintro e W5 ⟨⟨o, he, ho⟩, hB6⟩
  clear qhB5 zhB5 hB5
  rw [ho U rfl] at he
  subst he
  clear ho; have qhB7 := hB6.g.c1; have zhB7 := hB6.g.fz 1; have hB7 := hB6.s1 (.string ⟨U.toArray⟩)
  clear hB6 cP cN cA
  go_wp2_with (first
    | (go_at_call 17; refine (cR _ _ _ _ hB7).mono ?_; rintro e W8 ⟨rfl, hB8⟩; clear qhB7 zhB7 hB7 cR; have qhB9 := hB8.g.c2; have zhB9 := hB8.g.fz 2; have hB9 := hB8.s2 (.string ⟨r2.toArray⟩); have gl2 := hB9.g.c2; have hBE := hB9; have rc0 := hBE.r.c0; have rf0 := hBE.r.fz 0; have nc0 := hBE.n.c0; have rc1 := hBE.r.c1; have rf1 := hBE.r.fz 1; have nc1 := hBE.n.c1; have rc2 := hBE.r.c2; have rf2 := hBE.r.fz 2; have nc2 := hBE.n.c2; have rc3 := hBE.r.c3; have rf3 := hBE.r.fz 3; have nc3 := hBE.n.c3)
    | (go_at_call 20; refine (cO _).mono ?_; rintro e wq ⟨rfl, rfl⟩))
  have hF := (((hBE.r.s0 (.string ⟨#[]⟩)).s1 (.string ⟨#[]⟩)).s2 (.string ⟨#[]⟩)).s3 (.string ⟨#[]⟩)
  have d0 := hF.c0
  have d1 := hF.c1
  have d2 := hF.c2
  have d3 := hF.c3
  refine bodyPost_ret (v := .tuple #[.agg #[.string ⟨#[]⟩, .string ⟨#[]⟩, .string ⟨#[]⟩, .string ⟨#[]⟩], .int .i64 2]) (by simp [results, Tryd.results6, go_sem, d0, d1, d2, d3]) rfl ⟨rfl, ?_⟩
  exact (((hBE.b.setCell (p := ⟨w.heap.size, 0, none⟩) (Nat.le_refl _) _).setCell (p := ⟨w.heap.size, 1, none⟩) (Nat.le_refl _) _).setCell (p := ⟨w.heap.size, 2, none⟩) (Nat.le_refl _) _).setCell (p := ⟨w.heap.size, 3, none⟩) (Nat.le_refl _) _

set_option maxHeartbeats 4000000 in
set_option maxRecDepth 100000 in
theorem refFirst_y6 (L : Tx) (w : World) (hl : L.length ≤ 1024) (b : Tx) (hh0 : sgn [110, 44, 44] L = none) (hh : sgn [121, 44, 44] L = some b) (r : Tx) (h1 : sgn [110, 61] b = some r) (h2 : ix 44 r < r.length) (U : Tx) (h3 : nameO (prt r) = some U) (r2 : Tx) (h4 : sgn [44, 114, 61] (rst r) = some r2) (h5 : nonceB 128 r2 = true) : Calls Tryd.prog 6 #[.string ⟨L.toArray⟩] w fun e w' => e = .returned (.tuple #[.agg #[.string ⟨#[121, 44, 44]⟩, .string ⟨U.toArray⟩, .string ⟨r2.toArray⟩, .string ⟨b.toArray⟩], .int .i64 0]) ∧ Below w.heap.size w w' := by
  have hb1 : Below w.heap.size w (w.alloc (.cells #[.string ⟨#[]⟩, .string ⟨#[]⟩, .string ⟨#[]⟩, .string ⟨#[]⟩] 25)) := (Below.refl _ _).alloc (Nat.le_refl _) _
  have hR1 : FAt (w.alloc (.cells #[.string ⟨#[]⟩, .string ⟨#[]⟩, .string ⟨#[]⟩, .string ⟨#[]⟩] 25)) w.heap.size (.string ⟨#[]⟩) (.string ⟨#[]⟩) (.string ⟨#[]⟩) (.string ⟨#[]⟩) := heap_alloc_new w _
  have hz1 : (w.alloc (.cells #[.string ⟨#[]⟩, .string ⟨#[]⟩, .string ⟨#[]⟩, .string ⟨#[]⟩] 25)).heap.size = w.heap.size + 1 := by simp
  generalize hW1 : w.alloc (.cells #[.string ⟨#[]⟩, .string ⟨#[]⟩, .string ⟨#[]⟩, .string ⟨#[]⟩] 25) = W1 at hb1 hR1 hz1
  have hB3 : B3 w ((W1.alloc (.cells #[.string ⟨#[]⟩, .string ⟨#[]⟩, .string ⟨#[]⟩, .string ⟨#[]⟩] 25)).alloc (.cells #[.string ⟨#[110, 44, 44]⟩, .string ⟨#[]⟩, .string ⟨#[]⟩, .string ⟨#[]⟩] 25)) (.string ⟨#[110, 44, 44]⟩) (.string ⟨#[]⟩) (.string ⟨#[]⟩) (.string ⟨#[]⟩) := B3.start hb1 hR1 hz1
  have hz2 : (W1.alloc (.cells #[.string ⟨#[]⟩, .string ⟨#[]⟩, .string ⟨#[]⟩, .string ⟨#[]⟩] 25)).heap.size = w.heap.size + 2 := by simp [hz1]
  clear hb1 hR1
  have hz := size_tx L
  have hd : ¬ ((L.length : Int) > 1024) := by omega
  have c1 := (starts_no hh0 ((W1.alloc (.cells #[.string ⟨#[]⟩, .string ⟨#[]⟩, .string ⟨#[]⟩, .string ⟨#[]⟩] 25)).alloc (.cells #[.string ⟨#[110, 44, 44]⟩, .string ⟨#[]⟩, .string ⟨#[]⟩, .string ⟨#[]⟩] 25)) (by omega) (by simp)).mono (fun e w' q => (And.intro q.1 (q.2 ▸ hB3) : _ ∧ B3 w w' (.string ⟨#[110, 44, 44]⟩) (.string ⟨#[]⟩) (.string ⟨#[]⟩) (.string ⟨#[]⟩)))
  clear hB3
  have cH := fun w => starts_ok hh w (by omega) (by simp)
  have hlb := sgn_len hh
  have hlr := sgn_len h1
  have cN := fun w => starts_ok h1 w (by omega) (by simp)
  obtain ⟨k, hk⟩ : ∃ k, ix 44 r = k := ⟨_, rfl⟩
  have h2' := h2
  rw [hk] at h2'
  have cA := fun w => at_ok hk h2' w (by omega)
  have hx := take_tx r k
  have hy := drop_tx r k
  have hzr := size_tx r
  rw [show r.take k = prt r by unfold prt; rw [hk]] at hx
  rw [show r.drop k = rst r by unfold rst; rw [hk]] at hy
  have k0 : (k : Int) ≤ (r.length : Int) := by omega
  have hlp : (prt r).length ≤ r.length := by unfold prt; rw [List.length_take]; omega
  have hls := rst_len r
  have cP := fun (u : World) (g0 g3 : Value) (hB : B3 w u g0 (.string ⟨#[]⟩) (.string ⟨#[]⟩) g3) => (plain_any (prt r) u (by omega)).mono (fun e w' q => (And.intro q.1 (q.2 ▸ hB) : _ ∧ B3 w w' g0 (.string ⟨#[]⟩) (.string ⟨#[]⟩) g3))
  rw [h3] at cP
  have hl2 := sgn_len h4
  have cR := fun (u : World) (g0 g1 g3 : Value) (hB : B3 w u g0 g1 (.string ⟨#[]⟩) g3) => (starts_ok h4 u (by omega) (by simp)).mono (fun e w' q => (And.intro q.1 (q.2 ▸ hB) : _ ∧ B3 w w' g0 g1 (.string ⟨#[]⟩) g3))
  have cO := fun w => refNonce_any r2 128 w (by omega) (by omega)
  rw [h5] at cO
  obtain ⟨n, Hn⟩ : ∃ n, Hid (r.length = n) := ⟨_, rfl⟩
  rw [Hn.out] at hy hzr k0
  clear h1 h2 h2' h3 hk hh
  clear h4
  have tk1 : True := trivial
  go_enter Tryd.func6, Tryd.ntmps6
  go_wp2_with (clear tk1; go_at_call 17; refine c1.mono ?_; rintro e W3 ⟨rfl, hB3⟩; clear c1; have qhB4 := hB3.g.c0; have zhB4 := hB3.g.fz 0; have hB4 := hB3.s0 (.string ⟨#[121, 44, 44]⟩))
  refine (cH _).mono ?_
  rintro e wq ⟨rfl, rfl⟩
  clear cH
  clear qhB4 zhB4; have qhB5 := hB4.g.c3; have zhB5 := hB4.g.fz 3; have hB5 := hB4.s3 (.string ⟨b.toArray⟩)
  go_wp2_with (first
    | (go_at_call 17; refine (cN _).mono ?_; rintro e wq ⟨rfl, rfl⟩)
    | (go_at_call 18; refine (cA _).mono ?_; rintro e wq ⟨rfl, rfl⟩))
  refine (cP _ _ _ hB5).mono ?_
  rintro e W5 ⟨⟨o, he, ho⟩, hB6⟩
  clear qhB5 zhB5 hB5
  rw [ho U rfl] at he
  subst he
  clear ho; have qhB7 := hB6.g.c1; have zhB7 := hB6.g.fz 1; have hB7 := hB6.s1 (.string ⟨U.toArray⟩)
  clear hB6 cP cN cA
  go_wp2_with (first
    | (go_at_call 17; refine (cR _ _ _ _ hB7).mono ?_; rintro e W8 ⟨rfl, hB8⟩; clear qhB7 zhB7 hB7 cR; have qhB9 := hB8.g.c2; have zhB9 := hB8.g.fz 2; have hB9 := hB8.s2 (.string ⟨r2.toArray⟩); have gl2 := hB9.g.c2; have hBE := hB9; have rc0 := hBE.r.c0; have rf0 := hBE.r.fz 0; have nc0 := hBE.g.c0; have rc1 := hBE.r.c1; have rf1 := hBE.r.fz 1; have nc1 := hBE.g.c1; have rc2 := hBE.r.c2; have rf2 := hBE.r.fz 2; have nc2 := hBE.g.c2; have rc3 := hBE.r.c3; have rf3 := hBE.r.fz 3; have nc3 := hBE.g.c3)
    | (go_at_call 20; refine (cO _).mono ?_; rintro e wq ⟨rfl, rfl⟩))
  have hF := (((hBE.r.s0 (.string ⟨#[121, 44, 44]⟩)).s1 (.string ⟨U.toArray⟩)).s2 (.string ⟨r2.toArray⟩)).s3 (.string ⟨b.toArray⟩)
  have d0 := hF.c0
  have d1 := hF.c1
  have d2 := hF.c2
  have d3 := hF.c3
  refine bodyPost_ret (v := .tuple #[.agg #[.string ⟨#[121, 44, 44]⟩, .string ⟨U.toArray⟩, .string ⟨r2.toArray⟩, .string ⟨b.toArray⟩], .int .i64 0]) (by simp [results, Tryd.results6, go_sem, d0, d1, d2, d3]) rfl ⟨rfl, ?_⟩
  exact (((hBE.b.setCell (p := ⟨w.heap.size, 0, none⟩) (Nat.le_refl _) _).setCell (p := ⟨w.heap.size, 1, none⟩) (Nat.le_refl _) _).setCell (p := ⟨w.heap.size, 2, none⟩) (Nat.le_refl _) _).setCell (p := ⟨w.heap.size, 3, none⟩) (Nat.le_refl _) _

set_option maxHeartbeats 4000000 in
set_option maxRecDepth 100000 in
theorem refFirst_00 (L : Tx) (w : World) (hl : L.length ≤ 1024) (hh0 : sgn [110, 44, 44] L = none) (hh : sgn [121, 44, 44] L = none) : Calls Tryd.prog 6 #[.string ⟨L.toArray⟩] w fun e w' => e = .returned (.tuple #[.agg #[.string ⟨#[]⟩, .string ⟨#[]⟩, .string ⟨#[]⟩, .string ⟨#[]⟩], .int .i64 2]) ∧ Below w.heap.size w w' := by
  have hb1 : Below w.heap.size w (w.alloc (.cells #[.string ⟨#[]⟩, .string ⟨#[]⟩, .string ⟨#[]⟩, .string ⟨#[]⟩] 25)) := (Below.refl _ _).alloc (Nat.le_refl _) _
  have hR1 : FAt (w.alloc (.cells #[.string ⟨#[]⟩, .string ⟨#[]⟩, .string ⟨#[]⟩, .string ⟨#[]⟩] 25)) w.heap.size (.string ⟨#[]⟩) (.string ⟨#[]⟩) (.string ⟨#[]⟩) (.string ⟨#[]⟩) := heap_alloc_new w _
  have hz1 : (w.alloc (.cells #[.string ⟨#[]⟩, .string ⟨#[]⟩, .string ⟨#[]⟩, .string ⟨#[]⟩] 25)).heap.size = w.heap.size + 1 := by simp
  generalize hW1 : w.alloc (.cells #[.string ⟨#[]⟩, .string ⟨#[]⟩, .string ⟨#[]⟩, .string ⟨#[]⟩] 25) = W1 at hb1 hR1 hz1
  have hB3 : B3 w ((W1.alloc (.cells #[.string ⟨#[]⟩, .string ⟨#[]⟩, .string ⟨#[]⟩, .string ⟨#[]⟩] 25)).alloc (.cells #[.string ⟨#[110, 44, 44]⟩, .string ⟨#[]⟩, .string ⟨#[]⟩, .string ⟨#[]⟩] 25)) (.string ⟨#[110, 44, 44]⟩) (.string ⟨#[]⟩) (.string ⟨#[]⟩) (.string ⟨#[]⟩) := B3.start hb1 hR1 hz1
  have hz2 : (W1.alloc (.cells #[.string ⟨#[]⟩, .string ⟨#[]⟩, .string ⟨#[]⟩, .string ⟨#[]⟩] 25)).heap.size = w.heap.size + 2 := by simp [hz1]
  clear hb1 hR1
  have hz := size_tx L
  have hd : ¬ ((L.length : Int) > 1024) := by omega
  have c1 := (starts_no hh0 ((W1.alloc (.cells #[.string ⟨#[]⟩, .string ⟨#[]⟩, .string ⟨#[]⟩, .string ⟨#[]⟩] 25)).alloc (.cells #[.string ⟨#[110, 44, 44]⟩, .string ⟨#[]⟩, .string ⟨#[]⟩, .string ⟨#[]⟩] 25)) (by omega) (by simp)).mono (fun e w' q => (And.intro q.1 (q.2 ▸ hB3) : _ ∧ B3 w w' (.string ⟨#[110, 44, 44]⟩) (.string ⟨#[]⟩) (.string ⟨#[]⟩) (.string ⟨#[]⟩)))
  clear hB3
  have cH := fun w => starts_no hh w (by omega) (by simp)
  have cN := fun w => starts_no (L := []) (p := [110, 61]) rfl w (by simp) (by simp)
  have cA := fun w => at_no (L := []) (c := 44) (by simp) w (by simp)
  have tk1 : True := trivial
  go_enter Tryd.func6, Tryd.ntmps6
  go_wp2_with (clear tk1; go_at_call 17; refine c1.mono ?_; rintro e W3 ⟨rfl, hB3⟩; clear c1; have qhB4 := hB3.g.c0; have zhB4 := hB3.g.fz 0; have hB4 := hB3.s0 (.string ⟨#[121, 44, 44]⟩); have hBE := hB4; have rc0 := hBE.r.c0; have rf0 := hBE.r.fz 0; have nc0 := hBE.n.c0; have rc1 := hBE.r.c1; have rf1 := hBE.r.fz 1; have nc1 := hBE.n.c1; have rc2 := hBE.r.c2; have rf2 := hBE.r.fz 2; have nc2 := hBE.n.c2; have rc3 := hBE.r.c3; have rf3 := hBE.r.fz 3; have nc3 := hBE.n.c3)
  refine (cH _).mono ?_
  rintro e wq ⟨rfl, rfl⟩
  clear cH
  go_wp2_with (first
    | (go_at_call 17; refine (cN _).mono ?_; rintro e wq ⟨rfl, rfl⟩)
    | (go_at_call 18; refine (cA _).mono ?_; rintro e wq ⟨rfl, rfl⟩))
  have hF := (((hBE.r.s0 (.string ⟨#[]⟩)).s1 (.string ⟨#[]⟩)).s2 (.string ⟨#[]⟩)).s3 (.string ⟨#[]⟩)
  have d0 := hF.c0
  have d1 := hF.c1
  have d2 := hF.c2
  have d3 := hF.c3
  refine bodyPost_ret (v := .tuple #[.agg #[.string ⟨#[]⟩, .string ⟨#[]⟩, .string ⟨#[]⟩, .string ⟨#[]⟩], .int .i64 2]) (by simp [results, Tryd.results6, go_sem, d0, d1, d2, d3]) rfl ⟨rfl, ?_⟩
  exact (((hBE.b.setCell (p := ⟨w.heap.size, 0, none⟩) (Nat.le_refl _) _).setCell (p := ⟨w.heap.size, 1, none⟩) (Nat.le_refl _) _).setCell (p := ⟨w.heap.size, 2, none⟩) (Nat.le_refl _) _).setCell (p := ⟨w.heap.size, 3, none⟩) (Nat.le_refl _) _


theorem refFirst_any (L : Tx) (w : World) : Calls Tryd.prog 6 #[.string ⟨L.toArray⟩] w fun e w' => e = .returned (.tuple #[.agg (fcells (firstE L).1), .int .i64 (firstE L).2]) ∧ Below w.heap.size w w' := by
  by_cases hlen : 1024 < L.length
  · have e : firstE L = (noFP, 5) := by unfold firstE; rw [if_pos hlen]
    rw [e]; exact refFirst_long L w hlen
  have hl : L.length ≤ 1024 := by omega
  have HN : firstO L = none → firstE L = (noFP, 2) := firstE_none hl
  have HS : ∀ f, firstO L = some f → firstE L = (f, 0) := fun f h => by unfold firstE; rw [if_neg hlen, h]
  cases hn : sgn [110, 44, 44] L with
  | some b =>
    have hO : firstO L = first1 [110, 44, 44] b := by unfold firstO; rw [hdr_n hn]; rfl
    cases h1 : sgn [110, 61] b with
    | none =>
      rw [HN (by rw [hO]; unfold first1; rw [h1]; rfl)]; exact refFirst_n1 L w hl b hn h1
    | some r =>
      have hO1 : firstO L = first2 [110, 44, 44] b r := by rw [hO]; unfold first1; rw [h1]; rfl
      by_cases h2 : ix 44 r < r.length
      · cases h3 : nameO (prt r) with
        | none => rw [HN (by rw [hO1]; unfold first2; rw [h3]; rfl)]; exact refFirst_n3 L w hl b hn r h1 h2 h3
        | some U =>
          have hO2 : firstO L = first3 [110, 44, 44] b U (rst r) := by rw [hO1]; unfold first2; rw [h3]; rfl
          cases h4 : sgn [44, 114, 61] (rst r) with
          | none => rw [HN (by rw [hO2]; unfold first3; rw [h4]; rfl)]; exact refFirst_n4 L w hl b hn r h1 h2 U h3 h4
          | some r2 =>
            have hO3 : firstO L = first4 [110, 44, 44] b U r2 := by rw [hO2]; unfold first3; rw [h4]; rfl
            cases h5 : nonceB 128 r2 with
            | false => rw [HN (by rw [hO3]; exact first4_no h5)]; exact refFirst_n5 L w hl b hn r h1 h2 U h3 r2 h4 h5
            | true => rw [HS _ (by rw [hO3]; exact first4_yes h5)]; exact refFirst_n6 L w hl b hn r h1 h2 U h3 r2 h4 h5
      · rw [HN (by rw [hO1]; unfold first2 first3; rw [no_comma h2]; cases nameO (prt r) <;> rfl)]; exact refFirst_n2 L w hl b hn r h1 h2
  | none =>
    cases hy : sgn [121, 44, 44] L with
    | some b =>
      have hO : firstO L = first1 [121, 44, 44] b := by unfold firstO; rw [hdr_y hy]; rfl
      cases h1 : sgn [110, 61] b with
      | none =>
        rw [HN (by rw [hO]; unfold first1; rw [h1]; rfl)]; exact refFirst_y1 L w hl b hn hy h1
      | some r =>
        have hO1 : firstO L = first2 [121, 44, 44] b r := by rw [hO]; unfold first1; rw [h1]; rfl
        by_cases h2 : ix 44 r < r.length
        · cases h3 : nameO (prt r) with
          | none => rw [HN (by rw [hO1]; unfold first2; rw [h3]; rfl)]; exact refFirst_y3 L w hl b hn hy r h1 h2 h3
          | some U =>
            have hO2 : firstO L = first3 [121, 44, 44] b U (rst r) := by rw [hO1]; unfold first2; rw [h3]; rfl
            cases h4 : sgn [44, 114, 61] (rst r) with
            | none => rw [HN (by rw [hO2]; unfold first3; rw [h4]; rfl)]; exact refFirst_y4 L w hl b hn hy r h1 h2 U h3 h4
            | some r2 =>
              have hO3 : firstO L = first4 [121, 44, 44] b U r2 := by rw [hO2]; unfold first3; rw [h4]; rfl
              cases h5 : nonceB 128 r2 with
              | false => rw [HN (by rw [hO3]; exact first4_no h5)]; exact refFirst_y5 L w hl b hn hy r h1 h2 U h3 r2 h4 h5
              | true => rw [HS _ (by rw [hO3]; exact first4_yes h5)]; exact refFirst_y6 L w hl b hn hy r h1 h2 U h3 r2 h4 h5
        · rw [HN (by rw [hO1]; unfold first2 first3; rw [no_comma h2]; cases nameO (prt r) <;> rfl)]; exact refFirst_y2 L w hl b hn hy r h1 h2
    | none =>
      rw [HN (by unfold firstO; rw [hdr_0 hy hn]; rfl)]; exact refFirst_00 L w hl hn hy
end Go.Proofs.YtmilcknboaefkaaDoor
