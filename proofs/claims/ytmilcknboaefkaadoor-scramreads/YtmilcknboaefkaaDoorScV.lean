/- The document's Final: a client's final message. -/
import Derived.Test.YtmilcknboaefkaaDoorScL
import Derived.Test.YtmilcknboaefkaaDoorScU
import Derived.Test.YtmilcknboaefkaaDoorB6S
namespace Go.Proofs.YtmilcknboaefkaaDoor
open Go.RowKit Go.Shelf

theorem LAt.other {w : World} {R Q i : Nat} {a b c d : Value} (h : LAt w R a b c d) (hne : R ≠ Q) (v : Value) : LAt (w.setCell ⟨Q, i, none⟩ v) R a b c d := by
  unfold LAt; rw [Below.heap_setCell _ _ _ _ hne]; exact h
/-- The three blocks of the document's Final: what it answers, an empty one, what it makes. -/
structure BL (w w' : World) (g0 g1 g2 g3 : Value) : Prop where
  g : LAt w' (w.heap.size + 2) g0 g1 g2 g3
  n : LAt w' (w.heap.size + 1) (.string ⟨#[]⟩) (.string ⟨#[]⟩) (.slice none 0 0) (.string ⟨#[]⟩)
  r : LAt w' w.heap.size (.string ⟨#[]⟩) (.string ⟨#[]⟩) (.slice none 0 0) (.string ⟨#[]⟩)
  b : Below w.heap.size w w'
theorem BL.s0 {w w' : World} {g0 g1 g2 g3 : Value} (h : BL w w' g0 g1 g2 g3) (v : Value) : BL w (w'.setCell ⟨w.heap.size + 2, 0, none⟩ v) v g1 g2 g3 :=
  ⟨h.g.s0 v, h.n.other (by omega) v, h.r.other (by omega) v, h.b.setCell (p := ⟨w.heap.size + 2, 0, none⟩) (by show w.heap.size ≤ w.heap.size + 2; omega) v⟩
theorem BL.s1 {w w' : World} {g0 g1 g2 g3 : Value} (h : BL w w' g0 g1 g2 g3) (v : Value) : BL w (w'.setCell ⟨w.heap.size + 2, 1, none⟩ v) g0 v g2 g3 :=
  ⟨h.g.s1 v, h.n.other (by omega) v, h.r.other (by omega) v, h.b.setCell (p := ⟨w.heap.size + 2, 1, none⟩) (by show w.heap.size ≤ w.heap.size + 2; omega) v⟩
theorem BL.s2 {w w' : World} {g0 g1 g2 g3 : Value} (h : BL w w' g0 g1 g2 g3) (v : Value) : BL w (w'.setCell ⟨w.heap.size + 2, 2, none⟩ v) g0 g1 v g3 :=
  ⟨h.g.s2 v, h.n.other (by omega) v, h.r.other (by omega) v, h.b.setCell (p := ⟨w.heap.size + 2, 2, none⟩) (by show w.heap.size ≤ w.heap.size + 2; omega) v⟩
theorem BL.s3 {w w' : World} {g0 g1 g2 g3 : Value} (h : BL w w' g0 g1 g2 g3) (v : Value) : BL w (w'.setCell ⟨w.heap.size + 2, 3, none⟩ v) g0 g1 g2 v :=
  ⟨h.g.s3 v, h.n.other (by omega) v, h.r.other (by omega) v, h.b.setCell (p := ⟨w.heap.size + 2, 3, none⟩) (by show w.heap.size ≤ w.heap.size + 2; omega) v⟩
theorem BL.below {w w' w'' : World} {g0 g1 g2 g3 : Value} (h : BL w w' g0 g1 g2 g3) (hb : Below w'.heap.size w' w'') : BL w w'' g0 g1 g2 g3 :=
  ⟨h.g.below hb, h.n.below hb, h.r.below hb, h.b.trans (hb.mono h.b.size)⟩
theorem BL.start {w W1 : World} (v : Value) (hb1 : Below w.heap.size w W1) (hR1 : LAt W1 w.heap.size (.string ⟨#[]⟩) (.string ⟨#[]⟩) (.slice none 0 0) (.string ⟨#[]⟩)) (hz1 : W1.heap.size = w.heap.size + 1) : BL w ((W1.alloc (.cells #[.string ⟨#[]⟩, .string ⟨#[]⟩, .slice none 0 0, .string ⟨#[]⟩] 35)).alloc (.cells #[.string ⟨#[]⟩, .string ⟨#[]⟩, .slice none 0 0, v] 35)) (.string ⟨#[]⟩) (.string ⟨#[]⟩) (.slice none 0 0) v := by
  have hz2 : (W1.alloc (.cells #[.string ⟨#[]⟩, .string ⟨#[]⟩, .slice none 0 0, .string ⟨#[]⟩] 35)).heap.size = w.heap.size + 2 := by simp [hz1]
  have hN2 : LAt (W1.alloc (.cells #[.string ⟨#[]⟩, .string ⟨#[]⟩, .slice none 0 0, .string ⟨#[]⟩] 35)) (w.heap.size + 1) (.string ⟨#[]⟩) (.string ⟨#[]⟩) (.slice none 0 0) (.string ⟨#[]⟩) := by have := heap_alloc_new W1 (.cells #[.string ⟨#[]⟩, .string ⟨#[]⟩, .slice none 0 0, .string ⟨#[]⟩] 35); rw [hz1] at this; exact this
  have hR2 := hR1.below ((Below.refl _ _).alloc (Nat.le_refl _) (.cells #[.string ⟨#[]⟩, .string ⟨#[]⟩, .slice none 0 0, .string ⟨#[]⟩] 35))
  refine ⟨?_, hN2.below ((Below.refl _ _).alloc (Nat.le_refl _) _), hR2.below ((Below.refl _ _).alloc (Nat.le_refl _) _), (hb1.alloc (by omega) _).alloc (by omega) _⟩
  have := heap_alloc_new (W1.alloc (.cells #[.string ⟨#[]⟩, .string ⟨#[]⟩, .slice none 0 0, .string ⟨#[]⟩] 35)) (.cells #[.string ⟨#[]⟩, .string ⟨#[]⟩, .slice none 0 0, v] 35)
  rw [hz2] at this; exact this
theorem Rd.setOld {w : World} {a : Option Addr} {n c : Nat} {xs : List Int} (h : Rd w a n c xs) {B : Nat} (hn : ∀ ad, a = some ad → B ≤ ad.block) {R i : Nat} (hR : R < B) (v : Value) : Rd (w.setCell ⟨R, i, none⟩ v) a n c xs :=
  h.keep (S := fun j => j = R) (Keep.setCell (S := fun j => j = R) (Keep.refl _ _) rfl _) (fun ad ha e => by have := hn ad ha; omega)
theorem refDec (l : Tx) (w : World) (hl : l.length ≤ 1000000) : Calls Tryd.prog 24 #[.string ⟨l.toArray⟩] w fun e w' => ∃ a n c, e = .returned (.tuple #[.slice a n c, .int .i64 (errB (dec (il l)))]) ∧ Rd w' a n c (gotB (dec (il l))) ∧ (∀ ad, a = some ad → w.heap.size ≤ ad.block) ∧ Below w.heap.size w w' := by
  have c := refDecode_any (il l) w (il_bd l) (by rw [il_len]; exact hl)
  rw [str_il] at c
  exact c
def ToldR (p : LP × Nat) (e : Ending) (w' : World) : Prop := ∃ a n c, e = .returned (.tuple #[.agg (lcells p.1 (.slice a n c)), .int .i64 p.2]) ∧ Rd w' a n c p.1.pf

set_option maxHeartbeats 2000000 in
set_option maxRecDepth 100000 in
theorem refFinal_long (L : Tx) (w : World) (hl : 1024 < L.length) : Calls Tryd.prog 9 #[.string ⟨L.toArray⟩] w fun e w' => ToldR (noLP, 5) e w' ∧ Below w.heap.size w w' := by
  have hb1 : Below w.heap.size w (w.alloc (.cells #[.string ⟨#[]⟩, .string ⟨#[]⟩, .slice none 0 0, .string ⟨#[]⟩] 35)) := (Below.refl _ _).alloc (Nat.le_refl _) _
  have hR1 : LAt (w.alloc (.cells #[.string ⟨#[]⟩, .string ⟨#[]⟩, .slice none 0 0, .string ⟨#[]⟩] 35)) w.heap.size (.string ⟨#[]⟩) (.string ⟨#[]⟩) (.slice none 0 0) (.string ⟨#[]⟩) := heap_alloc_new w _
  have hz1 : (w.alloc (.cells #[.string ⟨#[]⟩, .string ⟨#[]⟩, .slice none 0 0, .string ⟨#[]⟩] 35)).heap.size = w.heap.size + 1 := by simp
  generalize hW1 : w.alloc (.cells #[.string ⟨#[]⟩, .string ⟨#[]⟩, .slice none 0 0, .string ⟨#[]⟩] 35) = W1 at hb1 hR1 hz1
  have hz := size_tx L
  have hd : (L.length : Int) > 1024 := by omega
  have rc0 := hR1.c0
  have rf0 := hR1.fz 0
  have rc1 := hR1.c1
  have rf1 := hR1.fz 1
  have rc2 := hR1.c2
  have rf2 := hR1.fz 2
  have rc3 := hR1.c3
  have rf3 := hR1.fz 3
  go_enter Tryd.func9, Tryd.ntmps9
  go_wp2
  have hF1 := (((hR1.s0 (.string ⟨#[]⟩)).s1 (.string ⟨#[]⟩)).s2 (.slice none 0 0)).s3 (.string ⟨#[]⟩)
  have hF := hF1.below ((Below.refl _ _).alloc (Nat.le_refl _) (.cells #[.string ⟨#[]⟩, .string ⟨#[]⟩, .slice none 0 0, .string ⟨#[]⟩] 35))
  have d0 := hF.c0
  have d1 := hF.c1
  have d2 := hF.c2
  have d3 := hF.c3
  refine bodyPost_ret (v := .tuple #[.agg #[.string ⟨#[]⟩, .string ⟨#[]⟩, .slice none 0 0, .string ⟨#[]⟩], .int .i64 5]) (by simp [results, Tryd.results9, go_sem, d0, d1, d2, d3]) rfl ⟨⟨none, 0, 0, rfl, rd_nilK _⟩, ?_⟩
  exact ((((hb1.setCell (p := ⟨w.heap.size, 0, none⟩) (Nat.le_refl _) _).setCell (p := ⟨w.heap.size, 1, none⟩) (Nat.le_refl _) _).setCell (p := ⟨w.heap.size, 2, none⟩) (Nat.le_refl _) _).setCell (p := ⟨w.heap.size, 3, none⟩) (Nat.le_refl _) _).alloc (by simp [World.setCell, hz1]) _

set_option maxHeartbeats 2000000 in
set_option maxRecDepth 100000 in
theorem refFinal_no (L : Tx) (w : World) (hl : L.length ≤ 1024) (hp : lastI [44, 112, 61] L = -1) : Calls Tryd.prog 9 #[.string ⟨L.toArray⟩] w fun e w' => ToldR (noLP, 2) e w' ∧ Below w.heap.size w w' := by
  have hb1 : Below w.heap.size w (w.alloc (.cells #[.string ⟨#[]⟩, .string ⟨#[]⟩, .slice none 0 0, .string ⟨#[]⟩] 35)) := (Below.refl _ _).alloc (Nat.le_refl _) _
  have hR1 : LAt (w.alloc (.cells #[.string ⟨#[]⟩, .string ⟨#[]⟩, .slice none 0 0, .string ⟨#[]⟩] 35)) w.heap.size (.string ⟨#[]⟩) (.string ⟨#[]⟩) (.slice none 0 0) (.string ⟨#[]⟩) := heap_alloc_new w _
  have hz1 : (w.alloc (.cells #[.string ⟨#[]⟩, .string ⟨#[]⟩, .slice none 0 0, .string ⟨#[]⟩] 35)).heap.size = w.heap.size + 1 := by simp
  generalize hW1 : w.alloc (.cells #[.string ⟨#[]⟩, .string ⟨#[]⟩, .slice none 0 0, .string ⟨#[]⟩] 35) = W1 at hb1 hR1 hz1
  have hz := size_tx L
  have hd : ¬ ((L.length : Int) > 1024) := by omega
  have cL := fun w => last_any L w (by omega)
  rw [hp] at cL
  have rc0 := hR1.c0
  have rf0 := hR1.fz 0
  have rc1 := hR1.c1
  have rf1 := hR1.fz 1
  have rc2 := hR1.c2
  have rf2 := hR1.fz 2
  have rc3 := hR1.c3
  have rf3 := hR1.fz 3
  go_enter Tryd.func9, Tryd.ntmps9
  go_wp2_with (go_at_call 23; refine (cL _).mono ?_; rintro e wq ⟨rfl, rfl⟩)
  have hF1 := (((hR1.s0 (.string ⟨#[]⟩)).s1 (.string ⟨#[]⟩)).s2 (.slice none 0 0)).s3 (.string ⟨#[]⟩)
  have hF := hF1.below ((Below.refl _ _).alloc (Nat.le_refl _) (.cells #[.string ⟨#[]⟩, .string ⟨#[]⟩, .slice none 0 0, .string ⟨#[]⟩] 35))
  have d0 := hF.c0
  have d1 := hF.c1
  have d2 := hF.c2
  have d3 := hF.c3
  refine bodyPost_ret (v := .tuple #[.agg #[.string ⟨#[]⟩, .string ⟨#[]⟩, .slice none 0 0, .string ⟨#[]⟩], .int .i64 2]) (by simp [results, Tryd.results9, go_sem, d0, d1, d2, d3]) rfl ⟨⟨none, 0, 0, rfl, rd_nilK _⟩, ?_⟩
  exact ((((hb1.setCell (p := ⟨w.heap.size, 0, none⟩) (Nat.le_refl _) _).setCell (p := ⟨w.heap.size, 1, none⟩) (Nat.le_refl _) _).setCell (p := ⟨w.heap.size, 2, none⟩) (Nat.le_refl _) _).setCell (p := ⟨w.heap.size, 3, none⟩) (Nat.le_refl _) _).alloc (by simp [World.setCell, hz1]) _

set_option maxHeartbeats 4000000 in
set_option maxRecDepth 100000 in
theorem refFinal_2 (L : Tx) (w : World) (hl : L.length ≤ 1024) (k : Nat) (hp : lastI [44, 112, 61] L = (k : Int)) (hk3 : k + 3 ≤ L.length) (ba : Tx) (hba : L.take k = ba) (h0 : ¬ ix 44 ba < ba.length) : Calls Tryd.prog 9 #[.string ⟨L.toArray⟩] w fun e w' => ToldR (noLP, 2) e w' ∧ Below w.heap.size w w' := by
  have hb1 : Below w.heap.size w (w.alloc (.cells #[.string ⟨#[]⟩, .string ⟨#[]⟩, .slice none 0 0, .string ⟨#[]⟩] 35)) := (Below.refl _ _).alloc (Nat.le_refl _) _
  have hR1 : LAt (w.alloc (.cells #[.string ⟨#[]⟩, .string ⟨#[]⟩, .slice none 0 0, .string ⟨#[]⟩] 35)) w.heap.size (.string ⟨#[]⟩) (.string ⟨#[]⟩) (.slice none 0 0) (.string ⟨#[]⟩) := heap_alloc_new w _
  have hz1 : (w.alloc (.cells #[.string ⟨#[]⟩, .string ⟨#[]⟩, .slice none 0 0, .string ⟨#[]⟩] 35)).heap.size = w.heap.size + 1 := by simp
  generalize hW1 : w.alloc (.cells #[.string ⟨#[]⟩, .string ⟨#[]⟩, .slice none 0 0, .string ⟨#[]⟩] 35) = W1 at hb1 hR1 hz1
  have hz := size_tx L
  have hd : ¬ ((L.length : Int) > 1024) := by omega
  have cL := fun w => last_any L w (by omega)
  rw [hp] at cL
  have hB3 : BL w ((W1.alloc (.cells #[.string ⟨#[]⟩, .string ⟨#[]⟩, .slice none 0 0, .string ⟨#[]⟩] 35)).alloc (.cells #[.string ⟨#[]⟩, .string ⟨#[]⟩, .slice none 0 0, .string ⟨ba.toArray⟩] 35)) (.string ⟨#[]⟩) (.string ⟨#[]⟩) (.slice none 0 0) (.string ⟨ba.toArray⟩) := BL.start _ hb1 hR1 hz1
  have hz2 : (W1.alloc (.cells #[.string ⟨#[]⟩, .string ⟨#[]⟩, .slice none 0 0, .string ⟨#[]⟩] 35)).heap.size = w.heap.size + 2 := by simp [hz1]
  have hx := take_tx L k
  have hy := drop_tx L (k + 3)
  rw [hba] at hx
  have k0 : (k : Int) ≤ (L.length : Int) := by omega
  have k3 : (k : Int) + 3 ≤ (L.length : Int) := by omega
  have hbl : ba.length ≤ L.length := by rw [← hba, List.length_take]; omega
  have hdl : (L.drop (k + 3)).length ≤ L.length := by rw [List.length_drop]; omega
  have hzb := size_tx ba
  have cA := (at_no h0 ((W1.alloc (.cells #[.string ⟨#[]⟩, .string ⟨#[]⟩, .slice none 0 0, .string ⟨#[]⟩] 35)).alloc (.cells #[.string ⟨#[]⟩, .string ⟨#[]⟩, .slice none 0 0, .string ⟨ba.toArray⟩] 35)) (by omega)).mono (fun e w' q => (And.intro q.1 (q.2 ▸ hB3) : _ ∧ BL w w' (.string ⟨#[]⟩) (.string ⟨#[]⟩) (.slice none 0 0) (.string ⟨ba.toArray⟩)))
  obtain ⟨lL, HlL⟩ : ∃ n, Hid (L.length = n) := ⟨_, rfl⟩
  rw [HlL.out] at hy hz k0 k3 hd
  clear hB3 hb1 hR1
  go_enter Tryd.func9, Tryd.ntmps9
  go_wp2_with (first
    | (go_at_call 23; refine (cL _).mono ?_; rintro e wq ⟨rfl, rfl⟩)
    | (go_at_call 18; refine cA.mono ?_; rintro e W3 ⟨rfl, hB3⟩; clear cA; have gc3 := hB3.g.c3; have hBE := hB3; have rc0 := hBE.r.c0; have rf0 := hBE.r.fz 0; have nc0 := hBE.n.c0; have rc1 := hBE.r.c1; have rf1 := hBE.r.fz 1; have nc1 := hBE.n.c1; have rc2 := hBE.r.c2; have rf2 := hBE.r.fz 2; have nc2 := hBE.n.c2; have rc3 := hBE.r.c3; have rf3 := hBE.r.fz 3; have nc3 := hBE.n.c3))
  have hF := (((hBE.r.s0 (.string ⟨#[]⟩)).s1 (.string ⟨#[]⟩)).s2 (.slice none 0 0)).s3 (.string ⟨#[]⟩)
  have d0 := hF.c0
  have d1 := hF.c1
  have d2 := hF.c2
  have d3 := hF.c3
  refine bodyPost_ret (v := .tuple #[.agg #[.string ⟨#[]⟩, .string ⟨#[]⟩, .slice none 0 0, .string ⟨#[]⟩], .int .i64 2]) (by simp [results, Tryd.results9, go_sem, d0, d1, d2, d3]) rfl ⟨⟨none, 0, 0, rfl, rd_nilK _⟩, ?_⟩
  exact (((hBE.b.setCell (p := ⟨w.heap.size, 0, none⟩) (Nat.le_refl _) _).setCell (p := ⟨w.heap.size, 1, none⟩) (Nat.le_refl _) _).setCell (p := ⟨w.heap.size, 2, none⟩) (Nat.le_refl _) _).setCell (p := ⟨w.heap.size, 3, none⟩) (Nat.le_refl _) _

set_option maxHeartbeats 4000000 in
set_option maxRecDepth 100000 in
theorem refFinal_3 (L : Tx) (w : World) (hl : L.length ≤ 1024) (k : Nat) (hp : lastI [44, 112, 61] L = (k : Int)) (hk3 : k + 3 ≤ L.length) (ba : Tx) (hba : L.take k = ba) (h0 : ix 44 ba < ba.length) (h1 : sgn [99, 61] (prt ba) = none) : Calls Tryd.prog 9 #[.string ⟨L.toArray⟩] w fun e w' => ToldR (noLP, 2) e w' ∧ Below w.heap.size w w' := by
  have hb1 : Below w.heap.size w (w.alloc (.cells #[.string ⟨#[]⟩, .string ⟨#[]⟩, .slice none 0 0, .string ⟨#[]⟩] 35)) := (Below.refl _ _).alloc (Nat.le_refl _) _
  have hR1 : LAt (w.alloc (.cells #[.string ⟨#[]⟩, .string ⟨#[]⟩, .slice none 0 0, .string ⟨#[]⟩] 35)) w.heap.size (.string ⟨#[]⟩) (.string ⟨#[]⟩) (.slice none 0 0) (.string ⟨#[]⟩) := heap_alloc_new w _
  have hz1 : (w.alloc (.cells #[.string ⟨#[]⟩, .string ⟨#[]⟩, .slice none 0 0, .string ⟨#[]⟩] 35)).heap.size = w.heap.size + 1 := by simp
  generalize hW1 : w.alloc (.cells #[.string ⟨#[]⟩, .string ⟨#[]⟩, .slice none 0 0, .string ⟨#[]⟩] 35) = W1 at hb1 hR1 hz1
  have hz := size_tx L
  have hd : ¬ ((L.length : Int) > 1024) := by omega
  have cL := fun w => last_any L w (by omega)
  rw [hp] at cL
  have hB3 : BL w ((W1.alloc (.cells #[.string ⟨#[]⟩, .string ⟨#[]⟩, .slice none 0 0, .string ⟨#[]⟩] 35)).alloc (.cells #[.string ⟨#[]⟩, .string ⟨#[]⟩, .slice none 0 0, .string ⟨ba.toArray⟩] 35)) (.string ⟨#[]⟩) (.string ⟨#[]⟩) (.slice none 0 0) (.string ⟨ba.toArray⟩) := BL.start _ hb1 hR1 hz1
  have hz2 : (W1.alloc (.cells #[.string ⟨#[]⟩, .string ⟨#[]⟩, .slice none 0 0, .string ⟨#[]⟩] 35)).heap.size = w.heap.size + 2 := by simp [hz1]
  have hx := take_tx L k
  have hy := drop_tx L (k + 3)
  rw [hba] at hx
  have k0 : (k : Int) ≤ (L.length : Int) := by omega
  have k3 : (k : Int) + 3 ≤ (L.length : Int) := by omega
  have hbl : ba.length ≤ L.length := by rw [← hba, List.length_take]; omega
  have hdl : (L.drop (k + 3)).length ≤ L.length := by rw [List.length_drop]; omega
  have hzb := size_tx ba
  obtain ⟨m, hm⟩ : ∃ m, ix 44 ba = m := ⟨_, rfl⟩
  have hm' : m < ba.length := by rw [← hm]; exact h0
  have cA := (at_ok hm hm' ((W1.alloc (.cells #[.string ⟨#[]⟩, .string ⟨#[]⟩, .slice none 0 0, .string ⟨#[]⟩] 35)).alloc (.cells #[.string ⟨#[]⟩, .string ⟨#[]⟩, .slice none 0 0, .string ⟨ba.toArray⟩] 35)) (by omega)).mono (fun e w' q => (And.intro q.1 (q.2 ▸ hB3) : _ ∧ BL w w' (.string ⟨#[]⟩) (.string ⟨#[]⟩) (.slice none 0 0) (.string ⟨ba.toArray⟩)))
  have hx2 := take_tx ba m
  have hy2 := drop_tx ba m
  rw [show ba.take m = prt ba by unfold prt; rw [hm]] at hx2
  rw [show ba.drop m = rst ba by unfold rst; rw [hm]] at hy2
  have m0 : (m : Int) ≤ (ba.length : Int) := by omega
  have hlp : (prt ba).length ≤ ba.length := by unfold prt; rw [List.length_take]; omega
  have hls := rst_len ba
  have cC := fun w => starts_no h1 w (by omega) (by simp)
  have cD := fun w => refDec [] w (by simp)
  obtain ⟨E1, hE1⟩ : ∃ E, errB (dec (il [])) = E := ⟨_, rfl⟩
  rw [hE1] at cD
  have cR := fun w => starts_any (rst ba) [44, 114, 61] w (by omega) (by simp)
  obtain ⟨nv, hnv⟩ : ∃ v, ((sgn [44, 114, 61] (rst ba)).getD []) = v := ⟨_, rfl⟩
  obtain ⟨nb, hnb⟩ : ∃ v, (sgn [44, 114, 61] (rst ba)).isSome = v := ⟨_, rfl⟩
  rw [hnv, hnb] at cR
  have cE := fun w => refDec (L.drop (k + 3)) w (by omega)
  obtain ⟨E2, hE2⟩ : ∃ E, errB (dec (il (L.drop (k + 3)))) = E := ⟨_, rfl⟩
  rw [hE2] at cE
  obtain ⟨D, HD⟩ : ∃ D, Hid ((⟨(L.drop (k + 3)).toArray⟩ : ByteArray) = D) := ⟨_, rfl⟩
  rw [HD.out] at hy cE
  obtain ⟨lb, Hlb⟩ : ∃ n, Hid (ba.length = n) := ⟨_, rfl⟩
  rw [Hlb.out] at hy2 hzb m0
  clear hm hm' hp hba h0
  obtain ⟨lL, HlL⟩ : ∃ n, Hid (L.length = n) := ⟨_, rfl⟩
  rw [HlL.out] at hy hz k0 k3 hd
  clear hB3 hb1 hR1
  go_enter Tryd.func9, Tryd.ntmps9
  go_wp2_with (first
    | (go_at_call 23; refine (cL _).mono ?_; rintro e wq ⟨rfl, rfl⟩)
    | (go_at_call 18; refine cA.mono ?_; rintro e W3 ⟨rfl, hB3⟩; clear cA; have gc3 := hB3.g.c3))
  refine (cC _).mono ?_
  rintro e wq ⟨rfl, rfl⟩
  clear cC
  go_wp2_with (go_at_call 24; refine (cD _).mono ?_; rintro e W4 ⟨a1, n1, k1, rfl, hR1, hn1, hb4⟩; clear cD gc3; have hB4 := hB3.below hb4; have gc3 := hB4.g.c3)
  refine (cR _).mono ?_
  rintro e wq ⟨rfl, rfl⟩
  clear cR
  go_wp2_with (first
    | (go_at_call 24; refine (cE _).mono ?_; rintro e W5 ⟨a2, n2, k2, rfl, hR2, hn2, hb5⟩; clear cE gc3; have hB5 := hB4.below hb5; have hBE := hB5; have rc0 := hBE.r.c0; have rf0 := hBE.r.fz 0; have nc0 := hBE.n.c0; have rc1 := hBE.r.c1; have rf1 := hBE.r.fz 1; have nc1 := hBE.n.c1; have rc2 := hBE.r.c2; have rf2 := hBE.r.fz 2; have nc2 := hBE.n.c2; have rc3 := hBE.r.c3; have rf3 := hBE.r.fz 3; have nc3 := hBE.n.c3))
  have hF := (((hBE.r.s0 (.string ⟨#[]⟩)).s1 (.string ⟨#[]⟩)).s2 (.slice none 0 0)).s3 (.string ⟨#[]⟩)
  have d0 := hF.c0
  have d1 := hF.c1
  have d2 := hF.c2
  have d3 := hF.c3
  refine bodyPost_ret (v := .tuple #[.agg #[.string ⟨#[]⟩, .string ⟨#[]⟩, .slice none 0 0, .string ⟨#[]⟩], .int .i64 2]) (by simp [results, Tryd.results9, go_sem, d0, d1, d2, d3]) rfl ⟨⟨none, 0, 0, rfl, rd_nilK _⟩, ?_⟩
  exact (((hBE.b.setCell (p := ⟨w.heap.size, 0, none⟩) (Nat.le_refl _) _).setCell (p := ⟨w.heap.size, 1, none⟩) (Nat.le_refl _) _).setCell (p := ⟨w.heap.size, 2, none⟩) (Nat.le_refl _) _).setCell (p := ⟨w.heap.size, 3, none⟩) (Nat.le_refl _) _

set_option maxHeartbeats 4000000 in
set_option maxRecDepth 100000 in
theorem refFinal_4 (L : Tx) (w : World) (hl : L.length ≤ 1024) (k : Nat) (hp : lastI [44, 112, 61] L = (k : Int)) (hk3 : k + 3 ≤ L.length) (ba : Tx) (hba : L.take k = ba) (h0 : ix 44 ba < ba.length) (c : Tx) (h1 : sgn [99, 61] (prt ba) = some c) (h2 : dec (il c) = none) : Calls Tryd.prog 9 #[.string ⟨L.toArray⟩] w fun e w' => ToldR (noLP, 2) e w' ∧ Below w.heap.size w w' := by
  have hb1 : Below w.heap.size w (w.alloc (.cells #[.string ⟨#[]⟩, .string ⟨#[]⟩, .slice none 0 0, .string ⟨#[]⟩] 35)) := (Below.refl _ _).alloc (Nat.le_refl _) _
  have hR1 : LAt (w.alloc (.cells #[.string ⟨#[]⟩, .string ⟨#[]⟩, .slice none 0 0, .string ⟨#[]⟩] 35)) w.heap.size (.string ⟨#[]⟩) (.string ⟨#[]⟩) (.slice none 0 0) (.string ⟨#[]⟩) := heap_alloc_new w _
  have hz1 : (w.alloc (.cells #[.string ⟨#[]⟩, .string ⟨#[]⟩, .slice none 0 0, .string ⟨#[]⟩] 35)).heap.size = w.heap.size + 1 := by simp
  generalize hW1 : w.alloc (.cells #[.string ⟨#[]⟩, .string ⟨#[]⟩, .slice none 0 0, .string ⟨#[]⟩] 35) = W1 at hb1 hR1 hz1
  have hz := size_tx L
  have hd : ¬ ((L.length : Int) > 1024) := by omega
  have cL := fun w => last_any L w (by omega)
  rw [hp] at cL
  have hB3 : BL w ((W1.alloc (.cells #[.string ⟨#[]⟩, .string ⟨#[]⟩, .slice none 0 0, .string ⟨#[]⟩] 35)).alloc (.cells #[.string ⟨#[]⟩, .string ⟨#[]⟩, .slice none 0 0, .string ⟨ba.toArray⟩] 35)) (.string ⟨#[]⟩) (.string ⟨#[]⟩) (.slice none 0 0) (.string ⟨ba.toArray⟩) := BL.start _ hb1 hR1 hz1
  have hz2 : (W1.alloc (.cells #[.string ⟨#[]⟩, .string ⟨#[]⟩, .slice none 0 0, .string ⟨#[]⟩] 35)).heap.size = w.heap.size + 2 := by simp [hz1]
  have hx := take_tx L k
  have hy := drop_tx L (k + 3)
  rw [hba] at hx
  have k0 : (k : Int) ≤ (L.length : Int) := by omega
  have k3 : (k : Int) + 3 ≤ (L.length : Int) := by omega
  have hbl : ba.length ≤ L.length := by rw [← hba, List.length_take]; omega
  have hdl : (L.drop (k + 3)).length ≤ L.length := by rw [List.length_drop]; omega
  have hzb := size_tx ba
  obtain ⟨m, hm⟩ : ∃ m, ix 44 ba = m := ⟨_, rfl⟩
  have hm' : m < ba.length := by rw [← hm]; exact h0
  have cA := (at_ok hm hm' ((W1.alloc (.cells #[.string ⟨#[]⟩, .string ⟨#[]⟩, .slice none 0 0, .string ⟨#[]⟩] 35)).alloc (.cells #[.string ⟨#[]⟩, .string ⟨#[]⟩, .slice none 0 0, .string ⟨ba.toArray⟩] 35)) (by omega)).mono (fun e w' q => (And.intro q.1 (q.2 ▸ hB3) : _ ∧ BL w w' (.string ⟨#[]⟩) (.string ⟨#[]⟩) (.slice none 0 0) (.string ⟨ba.toArray⟩)))
  have hx2 := take_tx ba m
  have hy2 := drop_tx ba m
  rw [show ba.take m = prt ba by unfold prt; rw [hm]] at hx2
  rw [show ba.drop m = rst ba by unfold rst; rw [hm]] at hy2
  have m0 : (m : Int) ≤ (ba.length : Int) := by omega
  have hlp : (prt ba).length ≤ ba.length := by unfold prt; rw [List.length_take]; omega
  have hls := rst_len ba
  have hlc := sgn_len h1
  have cC := fun w => starts_ok h1 w (by omega) (by simp)
  have cD := fun w => refDec c w (by omega)
  rw [h2] at cD
  simp only [errB] at cD
  have cR := fun w => starts_any (rst ba) [44, 114, 61] w (by omega) (by simp)
  obtain ⟨nv, hnv⟩ : ∃ v, ((sgn [44, 114, 61] (rst ba)).getD []) = v := ⟨_, rfl⟩
  obtain ⟨nb, hnb⟩ : ∃ v, (sgn [44, 114, 61] (rst ba)).isSome = v := ⟨_, rfl⟩
  rw [hnv, hnb] at cR
  have cE := fun w => refDec (L.drop (k + 3)) w (by omega)
  obtain ⟨E2, hE2⟩ : ∃ E, errB (dec (il (L.drop (k + 3)))) = E := ⟨_, rfl⟩
  rw [hE2] at cE
  obtain ⟨D, HD⟩ : ∃ D, Hid ((⟨(L.drop (k + 3)).toArray⟩ : ByteArray) = D) := ⟨_, rfl⟩
  rw [HD.out] at hy cE
  obtain ⟨lb, Hlb⟩ : ∃ n, Hid (ba.length = n) := ⟨_, rfl⟩
  rw [Hlb.out] at hy2 hzb m0
  clear hm hm' hp hba h0
  obtain ⟨lL, HlL⟩ : ∃ n, Hid (L.length = n) := ⟨_, rfl⟩
  rw [HlL.out] at hy hz k0 k3 hd
  clear hB3 hb1 hR1
  go_enter Tryd.func9, Tryd.ntmps9
  go_wp2_with (first
    | (go_at_call 23; refine (cL _).mono ?_; rintro e wq ⟨rfl, rfl⟩)
    | (go_at_call 18; refine cA.mono ?_; rintro e W3 ⟨rfl, hB3⟩; clear cA; have gc3 := hB3.g.c3))
  refine (cC _).mono ?_
  rintro e wq ⟨rfl, rfl⟩
  clear cC
  go_wp2_with (go_at_call 24; refine (cD _).mono ?_; rintro e W4 ⟨a1, n1, k1, rfl, hR1, hn1, hb4⟩; clear cD gc3; have hB4 := hB3.below hb4; have gc3 := hB4.g.c3)
  refine (cR _).mono ?_
  rintro e wq ⟨rfl, rfl⟩
  clear cR
  go_wp2_with (first
    | (go_at_call 24; refine (cE _).mono ?_; rintro e W5 ⟨a2, n2, k2, rfl, hR2, hn2, hb5⟩; clear cE gc3; have hB5 := hB4.below hb5; have hBE := hB5; have rc0 := hBE.r.c0; have rf0 := hBE.r.fz 0; have nc0 := hBE.n.c0; have rc1 := hBE.r.c1; have rf1 := hBE.r.fz 1; have nc1 := hBE.n.c1; have rc2 := hBE.r.c2; have rf2 := hBE.r.fz 2; have nc2 := hBE.n.c2; have rc3 := hBE.r.c3; have rf3 := hBE.r.fz 3; have nc3 := hBE.n.c3))
  have hF := (((hBE.r.s0 (.string ⟨#[]⟩)).s1 (.string ⟨#[]⟩)).s2 (.slice none 0 0)).s3 (.string ⟨#[]⟩)
  have d0 := hF.c0
  have d1 := hF.c1
  have d2 := hF.c2
  have d3 := hF.c3
  refine bodyPost_ret (v := .tuple #[.agg #[.string ⟨#[]⟩, .string ⟨#[]⟩, .slice none 0 0, .string ⟨#[]⟩], .int .i64 2]) (by simp [results, Tryd.results9, go_sem, d0, d1, d2, d3]) rfl ⟨⟨none, 0, 0, rfl, rd_nilK _⟩, ?_⟩
  exact (((hBE.b.setCell (p := ⟨w.heap.size, 0, none⟩) (Nat.le_refl _) _).setCell (p := ⟨w.heap.size, 1, none⟩) (Nat.le_refl _) _).setCell (p := ⟨w.heap.size, 2, none⟩) (Nat.le_refl _) _).setCell (p := ⟨w.heap.size, 3, none⟩) (Nat.le_refl _) _

set_option maxHeartbeats 4000000 in
set_option maxRecDepth 100000 in
theorem refFinal_5 (L : Tx) (w : World) (hl : L.length ≤ 1024) (k : Nat) (hp : lastI [44, 112, 61] L = (k : Int)) (hk3 : k + 3 ≤ L.length) (ba : Tx) (hba : L.take k = ba) (h0 : ix 44 ba < ba.length) (c : Tx) (h1 : sgn [99, 61] (prt ba) = some c) (h : List Int) (h2 : dec (il c) = some h) (h3 : sgn [44, 114, 61] (rst ba) = none) : Calls Tryd.prog 9 #[.string ⟨L.toArray⟩] w fun e w' => ToldR (noLP, 2) e w' ∧ Below w.heap.size w w' := by
  have hb1 : Below w.heap.size w (w.alloc (.cells #[.string ⟨#[]⟩, .string ⟨#[]⟩, .slice none 0 0, .string ⟨#[]⟩] 35)) := (Below.refl _ _).alloc (Nat.le_refl _) _
  have hR1 : LAt (w.alloc (.cells #[.string ⟨#[]⟩, .string ⟨#[]⟩, .slice none 0 0, .string ⟨#[]⟩] 35)) w.heap.size (.string ⟨#[]⟩) (.string ⟨#[]⟩) (.slice none 0 0) (.string ⟨#[]⟩) := heap_alloc_new w _
  have hz1 : (w.alloc (.cells #[.string ⟨#[]⟩, .string ⟨#[]⟩, .slice none 0 0, .string ⟨#[]⟩] 35)).heap.size = w.heap.size + 1 := by simp
  generalize hW1 : w.alloc (.cells #[.string ⟨#[]⟩, .string ⟨#[]⟩, .slice none 0 0, .string ⟨#[]⟩] 35) = W1 at hb1 hR1 hz1
  have hz := size_tx L
  have hd : ¬ ((L.length : Int) > 1024) := by omega
  have cL := fun w => last_any L w (by omega)
  rw [hp] at cL
  have hB3 : BL w ((W1.alloc (.cells #[.string ⟨#[]⟩, .string ⟨#[]⟩, .slice none 0 0, .string ⟨#[]⟩] 35)).alloc (.cells #[.string ⟨#[]⟩, .string ⟨#[]⟩, .slice none 0 0, .string ⟨ba.toArray⟩] 35)) (.string ⟨#[]⟩) (.string ⟨#[]⟩) (.slice none 0 0) (.string ⟨ba.toArray⟩) := BL.start _ hb1 hR1 hz1
  have hz2 : (W1.alloc (.cells #[.string ⟨#[]⟩, .string ⟨#[]⟩, .slice none 0 0, .string ⟨#[]⟩] 35)).heap.size = w.heap.size + 2 := by simp [hz1]
  have hx := take_tx L k
  have hy := drop_tx L (k + 3)
  rw [hba] at hx
  have k0 : (k : Int) ≤ (L.length : Int) := by omega
  have k3 : (k : Int) + 3 ≤ (L.length : Int) := by omega
  have hbl : ba.length ≤ L.length := by rw [← hba, List.length_take]; omega
  have hdl : (L.drop (k + 3)).length ≤ L.length := by rw [List.length_drop]; omega
  have hzb := size_tx ba
  obtain ⟨m, hm⟩ : ∃ m, ix 44 ba = m := ⟨_, rfl⟩
  have hm' : m < ba.length := by rw [← hm]; exact h0
  have cA := (at_ok hm hm' ((W1.alloc (.cells #[.string ⟨#[]⟩, .string ⟨#[]⟩, .slice none 0 0, .string ⟨#[]⟩] 35)).alloc (.cells #[.string ⟨#[]⟩, .string ⟨#[]⟩, .slice none 0 0, .string ⟨ba.toArray⟩] 35)) (by omega)).mono (fun e w' q => (And.intro q.1 (q.2 ▸ hB3) : _ ∧ BL w w' (.string ⟨#[]⟩) (.string ⟨#[]⟩) (.slice none 0 0) (.string ⟨ba.toArray⟩)))
  have hx2 := take_tx ba m
  have hy2 := drop_tx ba m
  rw [show ba.take m = prt ba by unfold prt; rw [hm]] at hx2
  rw [show ba.drop m = rst ba by unfold rst; rw [hm]] at hy2
  have m0 : (m : Int) ≤ (ba.length : Int) := by omega
  have hlp : (prt ba).length ≤ ba.length := by unfold prt; rw [List.length_take]; omega
  have hls := rst_len ba
  have hlc := sgn_len h1
  have cC := fun w => starts_ok h1 w (by omega) (by simp)
  have cD := fun w => refDec c w (by omega)
  rw [h2] at cD
  simp only [errB, gotB, Option.getD_some] at cD
  have cR := fun w => starts_no h3 w (by omega) (by simp)
  have cE := fun w => refDec (L.drop (k + 3)) w (by omega)
  obtain ⟨E2, hE2⟩ : ∃ E, errB (dec (il (L.drop (k + 3)))) = E := ⟨_, rfl⟩
  rw [hE2] at cE
  obtain ⟨D, HD⟩ : ∃ D, Hid ((⟨(L.drop (k + 3)).toArray⟩ : ByteArray) = D) := ⟨_, rfl⟩
  rw [HD.out] at hy cE
  obtain ⟨lb, Hlb⟩ : ∃ n, Hid (ba.length = n) := ⟨_, rfl⟩
  rw [Hlb.out] at hy2 hzb m0
  clear hm hm' hp hba h0
  obtain ⟨lL, HlL⟩ : ∃ n, Hid (L.length = n) := ⟨_, rfl⟩
  rw [HlL.out] at hy hz k0 k3 hd
  clear hB3 hb1 hR1
  go_enter Tryd.func9, Tryd.ntmps9
  go_wp2_with (first
    | (go_at_call 23; refine (cL _).mono ?_; rintro e wq ⟨rfl, rfl⟩)
    | (go_at_call 18; refine cA.mono ?_; rintro e W3 ⟨rfl, hB3⟩; clear cA; have gc3 := hB3.g.c3))
  refine (cC _).mono ?_
  rintro e wq ⟨rfl, rfl⟩
  clear cC
  go_wp2_with (go_at_call 24; refine (cD _).mono ?_; rintro e W4 ⟨a1, n1, k1, rfl, hR1, hn1, hb4⟩; clear cD gc3; have hB4 := hB3.below hb4; have gc3 := hB4.g.c3)
  refine (cR _).mono ?_
  rintro e wq ⟨rfl, rfl⟩
  clear cR
  go_wp2_with (first
    | (go_at_call 24; refine (cE _).mono ?_; rintro e W5 ⟨a2, n2, k2, rfl, hR2, hn2, hb5⟩; clear cE gc3; have hB5 := hB4.below hb5; have hBE := hB5; have rc0 := hBE.r.c0; have rf0 := hBE.r.fz 0; have nc0 := hBE.n.c0; have rc1 := hBE.r.c1; have rf1 := hBE.r.fz 1; have nc1 := hBE.n.c1; have rc2 := hBE.r.c2; have rf2 := hBE.r.fz 2; have nc2 := hBE.n.c2; have rc3 := hBE.r.c3; have rf3 := hBE.r.fz 3; have nc3 := hBE.n.c3))
  have hF := (((hBE.r.s0 (.string ⟨#[]⟩)).s1 (.string ⟨#[]⟩)).s2 (.slice none 0 0)).s3 (.string ⟨#[]⟩)
  have d0 := hF.c0
  have d1 := hF.c1
  have d2 := hF.c2
  have d3 := hF.c3
  refine bodyPost_ret (v := .tuple #[.agg #[.string ⟨#[]⟩, .string ⟨#[]⟩, .slice none 0 0, .string ⟨#[]⟩], .int .i64 2]) (by simp [results, Tryd.results9, go_sem, d0, d1, d2, d3]) rfl ⟨⟨none, 0, 0, rfl, rd_nilK _⟩, ?_⟩
  exact (((hBE.b.setCell (p := ⟨w.heap.size, 0, none⟩) (Nat.le_refl _) _).setCell (p := ⟨w.heap.size, 1, none⟩) (Nat.le_refl _) _).setCell (p := ⟨w.heap.size, 2, none⟩) (Nat.le_refl _) _).setCell (p := ⟨w.heap.size, 3, none⟩) (Nat.le_refl _) _

set_option maxHeartbeats 4000000 in
set_option maxRecDepth 100000 in
theorem refFinal_6 (L : Tx) (w : World) (hl : L.length ≤ 1024) (k : Nat) (hp : lastI [44, 112, 61] L = (k : Int)) (hk3 : k + 3 ≤ L.length) (ba : Tx) (hba : L.take k = ba) (h0 : ix 44 ba < ba.length) (c : Tx) (h1 : sgn [99, 61] (prt ba) = some c) (h : List Int) (h2 : dec (il c) = some h) (n : Tx) (h3 : sgn [44, 114, 61] (rst ba) = some n) (h4 : nonceB 256 n = false) : Calls Tryd.prog 9 #[.string ⟨L.toArray⟩] w fun e w' => ToldR (noLP, 2) e w' ∧ Below w.heap.size w w' := by
  have hb1 : Below w.heap.size w (w.alloc (.cells #[.string ⟨#[]⟩, .string ⟨#[]⟩, .slice none 0 0, .string ⟨#[]⟩] 35)) := (Below.refl _ _).alloc (Nat.le_refl _) _
  have hR1 : LAt (w.alloc (.cells #[.string ⟨#[]⟩, .string ⟨#[]⟩, .slice none 0 0, .string ⟨#[]⟩] 35)) w.heap.size (.string ⟨#[]⟩) (.string ⟨#[]⟩) (.slice none 0 0) (.string ⟨#[]⟩) := heap_alloc_new w _
  have hz1 : (w.alloc (.cells #[.string ⟨#[]⟩, .string ⟨#[]⟩, .slice none 0 0, .string ⟨#[]⟩] 35)).heap.size = w.heap.size + 1 := by simp
  generalize hW1 : w.alloc (.cells #[.string ⟨#[]⟩, .string ⟨#[]⟩, .slice none 0 0, .string ⟨#[]⟩] 35) = W1 at hb1 hR1 hz1
  have hz := size_tx L
  have hd : ¬ ((L.length : Int) > 1024) := by omega
  have cL := fun w => last_any L w (by omega)
  rw [hp] at cL
  have hB3 : BL w ((W1.alloc (.cells #[.string ⟨#[]⟩, .string ⟨#[]⟩, .slice none 0 0, .string ⟨#[]⟩] 35)).alloc (.cells #[.string ⟨#[]⟩, .string ⟨#[]⟩, .slice none 0 0, .string ⟨ba.toArray⟩] 35)) (.string ⟨#[]⟩) (.string ⟨#[]⟩) (.slice none 0 0) (.string ⟨ba.toArray⟩) := BL.start _ hb1 hR1 hz1
  have hz2 : (W1.alloc (.cells #[.string ⟨#[]⟩, .string ⟨#[]⟩, .slice none 0 0, .string ⟨#[]⟩] 35)).heap.size = w.heap.size + 2 := by simp [hz1]
  have hx := take_tx L k
  have hy := drop_tx L (k + 3)
  rw [hba] at hx
  have k0 : (k : Int) ≤ (L.length : Int) := by omega
  have k3 : (k : Int) + 3 ≤ (L.length : Int) := by omega
  have hbl : ba.length ≤ L.length := by rw [← hba, List.length_take]; omega
  have hdl : (L.drop (k + 3)).length ≤ L.length := by rw [List.length_drop]; omega
  have hzb := size_tx ba
  obtain ⟨m, hm⟩ : ∃ m, ix 44 ba = m := ⟨_, rfl⟩
  have hm' : m < ba.length := by rw [← hm]; exact h0
  have cA := (at_ok hm hm' ((W1.alloc (.cells #[.string ⟨#[]⟩, .string ⟨#[]⟩, .slice none 0 0, .string ⟨#[]⟩] 35)).alloc (.cells #[.string ⟨#[]⟩, .string ⟨#[]⟩, .slice none 0 0, .string ⟨ba.toArray⟩] 35)) (by omega)).mono (fun e w' q => (And.intro q.1 (q.2 ▸ hB3) : _ ∧ BL w w' (.string ⟨#[]⟩) (.string ⟨#[]⟩) (.slice none 0 0) (.string ⟨ba.toArray⟩)))
  have hx2 := take_tx ba m
  have hy2 := drop_tx ba m
  rw [show ba.take m = prt ba by unfold prt; rw [hm]] at hx2
  rw [show ba.drop m = rst ba by unfold rst; rw [hm]] at hy2
  have m0 : (m : Int) ≤ (ba.length : Int) := by omega
  have hlp : (prt ba).length ≤ ba.length := by unfold prt; rw [List.length_take]; omega
  have hls := rst_len ba
  have hlc := sgn_len h1
  have cC := fun w => starts_ok h1 w (by omega) (by simp)
  have cD := fun w => refDec c w (by omega)
  rw [h2] at cD
  simp only [errB, gotB, Option.getD_some] at cD
  have hln := sgn_len h3
  have cR := fun w => starts_ok h3 w (by omega) (by simp)
  have cO := fun w => refNonce_any n 256 w (by omega) (by omega)
  rw [h4] at cO
  have cE := fun w => refDec (L.drop (k + 3)) w (by omega)
  obtain ⟨E2, hE2⟩ : ∃ E, errB (dec (il (L.drop (k + 3)))) = E := ⟨_, rfl⟩
  rw [hE2] at cE
  obtain ⟨D, HD⟩ : ∃ D, Hid ((⟨(L.drop (k + 3)).toArray⟩ : ByteArray) = D) := ⟨_, rfl⟩
  rw [HD.out] at hy cE
  obtain ⟨lb, Hlb⟩ : ∃ n, Hid (ba.length = n) := ⟨_, rfl⟩
  rw [Hlb.out] at hy2 hzb m0
  clear hm hm' hp hba h0
  obtain ⟨lL, HlL⟩ : ∃ n, Hid (L.length = n) := ⟨_, rfl⟩
  rw [HlL.out] at hy hz k0 k3 hd
  clear hB3 hb1 hR1
  go_enter Tryd.func9, Tryd.ntmps9
  go_wp2_with (first
    | (go_at_call 23; refine (cL _).mono ?_; rintro e wq ⟨rfl, rfl⟩)
    | (go_at_call 18; refine cA.mono ?_; rintro e W3 ⟨rfl, hB3⟩; clear cA; have gc3 := hB3.g.c3))
  refine (cC _).mono ?_
  rintro e wq ⟨rfl, rfl⟩
  clear cC
  go_wp2_with (go_at_call 24; refine (cD _).mono ?_; rintro e W4 ⟨a1, n1, k1, rfl, hR1, hn1, hb4⟩; clear cD gc3; have hB4 := hB3.below hb4; have gc3 := hB4.g.c3)
  refine (cR _).mono ?_
  rintro e wq ⟨rfl, rfl⟩
  clear cR
  go_wp2_with (first
    | (go_at_call 24; refine (cE _).mono ?_; rintro e W5 ⟨a2, n2, k2, rfl, hR2, hn2, hb5⟩; clear cE gc3; have hB5 := hB4.below hb5; have hBE := hB5; have rc0 := hBE.r.c0; have rf0 := hBE.r.fz 0; have nc0 := hBE.n.c0; have rc1 := hBE.r.c1; have rf1 := hBE.r.fz 1; have nc1 := hBE.n.c1; have rc2 := hBE.r.c2; have rf2 := hBE.r.fz 2; have nc2 := hBE.n.c2; have rc3 := hBE.r.c3; have rf3 := hBE.r.fz 3; have nc3 := hBE.n.c3)
    | (go_at_call 20; refine (cO _).mono ?_; rintro e wq ⟨rfl, rfl⟩))
  have hF := (((hBE.r.s0 (.string ⟨#[]⟩)).s1 (.string ⟨#[]⟩)).s2 (.slice none 0 0)).s3 (.string ⟨#[]⟩)
  have d0 := hF.c0
  have d1 := hF.c1
  have d2 := hF.c2
  have d3 := hF.c3
  refine bodyPost_ret (v := .tuple #[.agg #[.string ⟨#[]⟩, .string ⟨#[]⟩, .slice none 0 0, .string ⟨#[]⟩], .int .i64 2]) (by simp [results, Tryd.results9, go_sem, d0, d1, d2, d3]) rfl ⟨⟨none, 0, 0, rfl, rd_nilK _⟩, ?_⟩
  exact (((hBE.b.setCell (p := ⟨w.heap.size, 0, none⟩) (Nat.le_refl _) _).setCell (p := ⟨w.heap.size, 1, none⟩) (Nat.le_refl _) _).setCell (p := ⟨w.heap.size, 2, none⟩) (Nat.le_refl _) _).setCell (p := ⟨w.heap.size, 3, none⟩) (Nat.le_refl _) _

set_option maxHeartbeats 4000000 in
set_option maxRecDepth 100000 in
theorem refFinal_7 (L : Tx) (w : World) (hl : L.length ≤ 1024) (k : Nat) (hp : lastI [44, 112, 61] L = (k : Int)) (hk3 : k + 3 ≤ L.length) (ba : Tx) (hba : L.take k = ba) (h0 : ix 44 ba < ba.length) (c : Tx) (h1 : sgn [99, 61] (prt ba) = some c) (h : List Int) (h2 : dec (il c) = some h) (n : Tx) (h3 : sgn [44, 114, 61] (rst ba) = some n) (h4 : nonceB 256 n = true) (h5 : dec (il (L.drop (k + 3))) = none) : Calls Tryd.prog 9 #[.string ⟨L.toArray⟩] w fun e w' => ToldR (noLP, 2) e w' ∧ Below w.heap.size w w' := by
  have hb1 : Below w.heap.size w (w.alloc (.cells #[.string ⟨#[]⟩, .string ⟨#[]⟩, .slice none 0 0, .string ⟨#[]⟩] 35)) := (Below.refl _ _).alloc (Nat.le_refl _) _
  have hR1 : LAt (w.alloc (.cells #[.string ⟨#[]⟩, .string ⟨#[]⟩, .slice none 0 0, .string ⟨#[]⟩] 35)) w.heap.size (.string ⟨#[]⟩) (.string ⟨#[]⟩) (.slice none 0 0) (.string ⟨#[]⟩) := heap_alloc_new w _
  have hz1 : (w.alloc (.cells #[.string ⟨#[]⟩, .string ⟨#[]⟩, .slice none 0 0, .string ⟨#[]⟩] 35)).heap.size = w.heap.size + 1 := by simp
  generalize hW1 : w.alloc (.cells #[.string ⟨#[]⟩, .string ⟨#[]⟩, .slice none 0 0, .string ⟨#[]⟩] 35) = W1 at hb1 hR1 hz1
  have hz := size_tx L
  have hd : ¬ ((L.length : Int) > 1024) := by omega
  have cL := fun w => last_any L w (by omega)
  rw [hp] at cL
  have hB3 : BL w ((W1.alloc (.cells #[.string ⟨#[]⟩, .string ⟨#[]⟩, .slice none 0 0, .string ⟨#[]⟩] 35)).alloc (.cells #[.string ⟨#[]⟩, .string ⟨#[]⟩, .slice none 0 0, .string ⟨ba.toArray⟩] 35)) (.string ⟨#[]⟩) (.string ⟨#[]⟩) (.slice none 0 0) (.string ⟨ba.toArray⟩) := BL.start _ hb1 hR1 hz1
  have hz2 : (W1.alloc (.cells #[.string ⟨#[]⟩, .string ⟨#[]⟩, .slice none 0 0, .string ⟨#[]⟩] 35)).heap.size = w.heap.size + 2 := by simp [hz1]
  have hx := take_tx L k
  have hy := drop_tx L (k + 3)
  rw [hba] at hx
  have k0 : (k : Int) ≤ (L.length : Int) := by omega
  have k3 : (k : Int) + 3 ≤ (L.length : Int) := by omega
  have hbl : ba.length ≤ L.length := by rw [← hba, List.length_take]; omega
  have hdl : (L.drop (k + 3)).length ≤ L.length := by rw [List.length_drop]; omega
  have hzb := size_tx ba
  obtain ⟨m, hm⟩ : ∃ m, ix 44 ba = m := ⟨_, rfl⟩
  have hm' : m < ba.length := by rw [← hm]; exact h0
  have cA := (at_ok hm hm' ((W1.alloc (.cells #[.string ⟨#[]⟩, .string ⟨#[]⟩, .slice none 0 0, .string ⟨#[]⟩] 35)).alloc (.cells #[.string ⟨#[]⟩, .string ⟨#[]⟩, .slice none 0 0, .string ⟨ba.toArray⟩] 35)) (by omega)).mono (fun e w' q => (And.intro q.1 (q.2 ▸ hB3) : _ ∧ BL w w' (.string ⟨#[]⟩) (.string ⟨#[]⟩) (.slice none 0 0) (.string ⟨ba.toArray⟩)))
  have hx2 := take_tx ba m
  have hy2 := drop_tx ba m
  rw [show ba.take m = prt ba by unfold prt; rw [hm]] at hx2
  rw [show ba.drop m = rst ba by unfold rst; rw [hm]] at hy2
  have m0 : (m : Int) ≤ (ba.length : Int) := by omega
  have hlp : (prt ba).length ≤ ba.length := by unfold prt; rw [List.length_take]; omega
  have hls := rst_len ba
  have hlc := sgn_len h1
  have cC := fun w => starts_ok h1 w (by omega) (by simp)
  have cD := fun w => refDec c w (by omega)
  rw [h2] at cD
  simp only [errB, gotB, Option.getD_some] at cD
  have hln := sgn_len h3
  have cR := fun w => starts_ok h3 w (by omega) (by simp)
  have cO := fun w => refNonce_any n 256 w (by omega) (by omega)
  rw [h4] at cO
  have cE := fun w => refDec (L.drop (k + 3)) w (by omega)
  rw [h5] at cE
  simp only [errB] at cE
  obtain ⟨D, HD⟩ : ∃ D, Hid ((⟨(L.drop (k + 3)).toArray⟩ : ByteArray) = D) := ⟨_, rfl⟩
  rw [HD.out] at hy cE
  obtain ⟨lb, Hlb⟩ : ∃ n, Hid (ba.length = n) := ⟨_, rfl⟩
  rw [Hlb.out] at hy2 hzb m0
  clear hm hm' hp hba h0
  obtain ⟨lL, HlL⟩ : ∃ n, Hid (L.length = n) := ⟨_, rfl⟩
  rw [HlL.out] at hy hz k0 k3 hd
  clear hB3 hb1 hR1
  go_enter Tryd.func9, Tryd.ntmps9
  go_wp2_with (first
    | (go_at_call 23; refine (cL _).mono ?_; rintro e wq ⟨rfl, rfl⟩)
    | (go_at_call 18; refine cA.mono ?_; rintro e W3 ⟨rfl, hB3⟩; clear cA; have gc3 := hB3.g.c3))
  refine (cC _).mono ?_
  rintro e wq ⟨rfl, rfl⟩
  clear cC
  go_wp2_with (go_at_call 24; refine (cD _).mono ?_; rintro e W4 ⟨a1, n1, k1, rfl, hR1, hn1, hb4⟩; clear cD gc3; have hB4 := hB3.below hb4; have gc3 := hB4.g.c3)
  refine (cR _).mono ?_
  rintro e wq ⟨rfl, rfl⟩
  clear cR
  go_wp2_with (first
    | (go_at_call 24; refine (cE _).mono ?_; rintro e W5 ⟨a2, n2, k2, rfl, hR2, hn2, hb5⟩; clear cE gc3; have hB5 := hB4.below hb5; have hBE := hB5; have rc0 := hBE.r.c0; have rf0 := hBE.r.fz 0; have nc0 := hBE.n.c0; have rc1 := hBE.r.c1; have rf1 := hBE.r.fz 1; have nc1 := hBE.n.c1; have rc2 := hBE.r.c2; have rf2 := hBE.r.fz 2; have nc2 := hBE.n.c2; have rc3 := hBE.r.c3; have rf3 := hBE.r.fz 3; have nc3 := hBE.n.c3)
    | (go_at_call 20; refine (cO _).mono ?_; rintro e wq ⟨rfl, rfl⟩))
  have hF := (((hBE.r.s0 (.string ⟨#[]⟩)).s1 (.string ⟨#[]⟩)).s2 (.slice none 0 0)).s3 (.string ⟨#[]⟩)
  have d0 := hF.c0
  have d1 := hF.c1
  have d2 := hF.c2
  have d3 := hF.c3
  refine bodyPost_ret (v := .tuple #[.agg #[.string ⟨#[]⟩, .string ⟨#[]⟩, .slice none 0 0, .string ⟨#[]⟩], .int .i64 2]) (by simp [results, Tryd.results9, go_sem, d0, d1, d2, d3]) rfl ⟨⟨none, 0, 0, rfl, rd_nilK _⟩, ?_⟩
  exact (((hBE.b.setCell (p := ⟨w.heap.size, 0, none⟩) (Nat.le_refl _) _).setCell (p := ⟨w.heap.size, 1, none⟩) (Nat.le_refl _) _).setCell (p := ⟨w.heap.size, 2, none⟩) (Nat.le_refl _) _).setCell (p := ⟨w.heap.size, 3, none⟩) (Nat.le_refl _) _

set_option maxHeartbeats 4000000 in
set_option maxRecDepth 100000 in
theorem refFinal_8 (L : Tx) (w : World) (hl : L.length ≤ 1024) (k : Nat) (hp : lastI [44, 112, 61] L = (k : Int)) (hk3 : k + 3 ≤ L.length) (ba : Tx) (hba : L.take k = ba) (h0 : ix 44 ba < ba.length) (c : Tx) (h1 : sgn [99, 61] (prt ba) = some c) (h : List Int) (h2 : dec (il c) = some h) (n : Tx) (h3 : sgn [44, 114, 61] (rst ba) = some n) (h4 : nonceB 256 n = true) (pf : List Int) (h5 : dec (il (L.drop (k + 3))) = some pf) (h6 : ¬ pf.length = 32) : Calls Tryd.prog 9 #[.string ⟨L.toArray⟩] w fun e w' => ToldR (noLP, 2) e w' ∧ Below w.heap.size w w' := by
  have hb1 : Below w.heap.size w (w.alloc (.cells #[.string ⟨#[]⟩, .string ⟨#[]⟩, .slice none 0 0, .string ⟨#[]⟩] 35)) := (Below.refl _ _).alloc (Nat.le_refl _) _
  have hR1 : LAt (w.alloc (.cells #[.string ⟨#[]⟩, .string ⟨#[]⟩, .slice none 0 0, .string ⟨#[]⟩] 35)) w.heap.size (.string ⟨#[]⟩) (.string ⟨#[]⟩) (.slice none 0 0) (.string ⟨#[]⟩) := heap_alloc_new w _
  have hz1 : (w.alloc (.cells #[.string ⟨#[]⟩, .string ⟨#[]⟩, .slice none 0 0, .string ⟨#[]⟩] 35)).heap.size = w.heap.size + 1 := by simp
  generalize hW1 : w.alloc (.cells #[.string ⟨#[]⟩, .string ⟨#[]⟩, .slice none 0 0, .string ⟨#[]⟩] 35) = W1 at hb1 hR1 hz1
  have hz := size_tx L
  have hd : ¬ ((L.length : Int) > 1024) := by omega
  have cL := fun w => last_any L w (by omega)
  rw [hp] at cL
  have hB3 : BL w ((W1.alloc (.cells #[.string ⟨#[]⟩, .string ⟨#[]⟩, .slice none 0 0, .string ⟨#[]⟩] 35)).alloc (.cells #[.string ⟨#[]⟩, .string ⟨#[]⟩, .slice none 0 0, .string ⟨ba.toArray⟩] 35)) (.string ⟨#[]⟩) (.string ⟨#[]⟩) (.slice none 0 0) (.string ⟨ba.toArray⟩) := BL.start _ hb1 hR1 hz1
  have hz2 : (W1.alloc (.cells #[.string ⟨#[]⟩, .string ⟨#[]⟩, .slice none 0 0, .string ⟨#[]⟩] 35)).heap.size = w.heap.size + 2 := by simp [hz1]
  have hx := take_tx L k
  have hy := drop_tx L (k + 3)
  rw [hba] at hx
  have k0 : (k : Int) ≤ (L.length : Int) := by omega
  have k3 : (k : Int) + 3 ≤ (L.length : Int) := by omega
  have hbl : ba.length ≤ L.length := by rw [← hba, List.length_take]; omega
  have hdl : (L.drop (k + 3)).length ≤ L.length := by rw [List.length_drop]; omega
  have hzb := size_tx ba
  obtain ⟨m, hm⟩ : ∃ m, ix 44 ba = m := ⟨_, rfl⟩
  have hm' : m < ba.length := by rw [← hm]; exact h0
  have cA := (at_ok hm hm' ((W1.alloc (.cells #[.string ⟨#[]⟩, .string ⟨#[]⟩, .slice none 0 0, .string ⟨#[]⟩] 35)).alloc (.cells #[.string ⟨#[]⟩, .string ⟨#[]⟩, .slice none 0 0, .string ⟨ba.toArray⟩] 35)) (by omega)).mono (fun e w' q => (And.intro q.1 (q.2 ▸ hB3) : _ ∧ BL w w' (.string ⟨#[]⟩) (.string ⟨#[]⟩) (.slice none 0 0) (.string ⟨ba.toArray⟩)))
  have hx2 := take_tx ba m
  have hy2 := drop_tx ba m
  rw [show ba.take m = prt ba by unfold prt; rw [hm]] at hx2
  rw [show ba.drop m = rst ba by unfold rst; rw [hm]] at hy2
  have m0 : (m : Int) ≤ (ba.length : Int) := by omega
  have hlp : (prt ba).length ≤ ba.length := by unfold prt; rw [List.length_take]; omega
  have hls := rst_len ba
  have hlc := sgn_len h1
  have cC := fun w => starts_ok h1 w (by omega) (by simp)
  have cD := fun w => refDec c w (by omega)
  rw [h2] at cD
  simp only [errB, gotB, Option.getD_some] at cD
  have hln := sgn_len h3
  have cR := fun w => starts_ok h3 w (by omega) (by simp)
  have cO := fun w => refNonce_any n 256 w (by omega) (by omega)
  rw [h4] at cO
  have cE := fun w => refDec (L.drop (k + 3)) w (by omega)
  rw [h5] at cE
  simp only [errB, gotB, Option.getD_some] at cE
  obtain ⟨D, HD⟩ : ∃ D, Hid ((⟨(L.drop (k + 3)).toArray⟩ : ByteArray) = D) := ⟨_, rfl⟩
  rw [HD.out] at hy cE
  obtain ⟨lb, Hlb⟩ : ∃ n, Hid (ba.length = n) := ⟨_, rfl⟩
  rw [Hlb.out] at hy2 hzb m0
  clear hm hm' hp hba h0
  obtain ⟨lL, HlL⟩ : ∃ n, Hid (L.length = n) := ⟨_, rfl⟩
  rw [HlL.out] at hy hz k0 k3 hd
  clear hB3 hb1 hR1
  go_enter Tryd.func9, Tryd.ntmps9
  go_wp2_with (first
    | (go_at_call 23; refine (cL _).mono ?_; rintro e wq ⟨rfl, rfl⟩)
    | (go_at_call 18; refine cA.mono ?_; rintro e W3 ⟨rfl, hB3⟩; clear cA; have gc3 := hB3.g.c3))
  refine (cC _).mono ?_
  rintro e wq ⟨rfl, rfl⟩
  clear cC
  go_wp2_with (go_at_call 24; refine (cD _).mono ?_; rintro e W4 ⟨a1, n1, k1, rfl, hR1, hn1, hb4⟩; clear cD gc3; have hB4 := hB3.below hb4; have gc3 := hB4.g.c3)
  refine (cR _).mono ?_
  rintro e wq ⟨rfl, rfl⟩
  clear cR
  go_wp2_with (first
    | (go_at_call 24; refine (cE _).mono ?_; rintro e W5 ⟨a2, n2, k2, rfl, hR2, hn2, hb5⟩; clear cE gc3; have hB5 := hB4.below hb5; have hBE := hB5; have rc0 := hBE.r.c0; have rf0 := hBE.r.fz 0; have nc0 := hBE.n.c0; have rc1 := hBE.r.c1; have rf1 := hBE.r.fz 1; have nc1 := hBE.n.c1; have rc2 := hBE.r.c2; have rf2 := hBE.r.fz 2; have nc2 := hBE.n.c2; have rc3 := hBE.r.c3; have rf3 := hBE.r.fz 3; have nc3 := hBE.n.c3; have hne : ((n2 : Int) == 32) = false := (by have := hR2.len; simp; omega))
    | (go_at_call 20; refine (cO _).mono ?_; rintro e wq ⟨rfl, rfl⟩))
  have hF := (((hBE.r.s0 (.string ⟨#[]⟩)).s1 (.string ⟨#[]⟩)).s2 (.slice none 0 0)).s3 (.string ⟨#[]⟩)
  have d0 := hF.c0
  have d1 := hF.c1
  have d2 := hF.c2
  have d3 := hF.c3
  refine bodyPost_ret (v := .tuple #[.agg #[.string ⟨#[]⟩, .string ⟨#[]⟩, .slice none 0 0, .string ⟨#[]⟩], .int .i64 2]) (by simp [results, Tryd.results9, go_sem, d0, d1, d2, d3]) rfl ⟨⟨none, 0, 0, rfl, rd_nilK _⟩, ?_⟩
  exact (((hBE.b.setCell (p := ⟨w.heap.size, 0, none⟩) (Nat.le_refl _) _).setCell (p := ⟨w.heap.size, 1, none⟩) (Nat.le_refl _) _).setCell (p := ⟨w.heap.size, 2, none⟩) (Nat.le_refl _) _).setCell (p := ⟨w.heap.size, 3, none⟩) (Nat.le_refl _) _

set_option maxHeartbeats 4000000 in
set_option maxRecDepth 100000 in
theorem refFinal_9 (L : Tx) (w : World) (hl : L.length ≤ 1024) (k : Nat) (hp : lastI [44, 112, 61] L = (k : Int)) (hk3 : k + 3 ≤ L.length) (ba : Tx) (hba : L.take k = ba) (h0 : ix 44 ba < ba.length) (c : Tx) (h1 : sgn [99, 61] (prt ba) = some c) (h : List Int) (h2 : dec (il c) = some h) (n : Tx) (h3 : sgn [44, 114, 61] (rst ba) = some n) (h4 : nonceB 256 n = true) (pf : List Int) (h5 : dec (il (L.drop (k + 3))) = some pf) (h6 : pf.length = 32) : Calls Tryd.prog 9 #[.string ⟨L.toArray⟩] w fun e w' => ToldR (⟨tx h, n, pf, ba⟩, 0) e w' ∧ Below w.heap.size w w' := by
  have hb1 : Below w.heap.size w (w.alloc (.cells #[.string ⟨#[]⟩, .string ⟨#[]⟩, .slice none 0 0, .string ⟨#[]⟩] 35)) := (Below.refl _ _).alloc (Nat.le_refl _) _
  have hR1 : LAt (w.alloc (.cells #[.string ⟨#[]⟩, .string ⟨#[]⟩, .slice none 0 0, .string ⟨#[]⟩] 35)) w.heap.size (.string ⟨#[]⟩) (.string ⟨#[]⟩) (.slice none 0 0) (.string ⟨#[]⟩) := heap_alloc_new w _
  have hz1 : (w.alloc (.cells #[.string ⟨#[]⟩, .string ⟨#[]⟩, .slice none 0 0, .string ⟨#[]⟩] 35)).heap.size = w.heap.size + 1 := by simp
  generalize hW1 : w.alloc (.cells #[.string ⟨#[]⟩, .string ⟨#[]⟩, .slice none 0 0, .string ⟨#[]⟩] 35) = W1 at hb1 hR1 hz1
  have hz := size_tx L
  have hd : ¬ ((L.length : Int) > 1024) := by omega
  have cL := fun w => last_any L w (by omega)
  rw [hp] at cL
  have hB3 : BL w ((W1.alloc (.cells #[.string ⟨#[]⟩, .string ⟨#[]⟩, .slice none 0 0, .string ⟨#[]⟩] 35)).alloc (.cells #[.string ⟨#[]⟩, .string ⟨#[]⟩, .slice none 0 0, .string ⟨ba.toArray⟩] 35)) (.string ⟨#[]⟩) (.string ⟨#[]⟩) (.slice none 0 0) (.string ⟨ba.toArray⟩) := BL.start _ hb1 hR1 hz1
  have hz2 : (W1.alloc (.cells #[.string ⟨#[]⟩, .string ⟨#[]⟩, .slice none 0 0, .string ⟨#[]⟩] 35)).heap.size = w.heap.size + 2 := by simp [hz1]
  have hx := take_tx L k
  have hy := drop_tx L (k + 3)
  rw [hba] at hx
  have k0 : (k : Int) ≤ (L.length : Int) := by omega
  have k3 : (k : Int) + 3 ≤ (L.length : Int) := by omega
  have hbl : ba.length ≤ L.length := by rw [← hba, List.length_take]; omega
  have hdl : (L.drop (k + 3)).length ≤ L.length := by rw [List.length_drop]; omega
  have hzb := size_tx ba
  obtain ⟨m, hm⟩ : ∃ m, ix 44 ba = m := ⟨_, rfl⟩
  have hm' : m < ba.length := by rw [← hm]; exact h0
  have cA := (at_ok hm hm' ((W1.alloc (.cells #[.string ⟨#[]⟩, .string ⟨#[]⟩, .slice none 0 0, .string ⟨#[]⟩] 35)).alloc (.cells #[.string ⟨#[]⟩, .string ⟨#[]⟩, .slice none 0 0, .string ⟨ba.toArray⟩] 35)) (by omega)).mono (fun e w' q => (And.intro q.1 (q.2 ▸ hB3) : _ ∧ BL w w' (.string ⟨#[]⟩) (.string ⟨#[]⟩) (.slice none 0 0) (.string ⟨ba.toArray⟩)))
  have hx2 := take_tx ba m
  have hy2 := drop_tx ba m
  rw [show ba.take m = prt ba by unfold prt; rw [hm]] at hx2
  rw [show ba.drop m = rst ba by unfold rst; rw [hm]] at hy2
  have m0 : (m : Int) ≤ (ba.length : Int) := by omega
  have hlp : (prt ba).length ≤ ba.length := by unfold prt; rw [List.length_take]; omega
  have hls := rst_len ba
  have hlc := sgn_len h1
  have cC := fun w => starts_ok h1 w (by omega) (by simp)
  have cD := fun w => refDec c w (by omega)
  rw [h2] at cD
  simp only [errB, gotB, Option.getD_some] at cD
  have hln := sgn_len h3
  have cR := fun w => starts_ok h3 w (by omega) (by simp)
  have cO := fun w => refNonce_any n 256 w (by omega) (by omega)
  rw [h4] at cO
  have cE := fun w => refDec (L.drop (k + 3)) w (by omega)
  rw [h5] at cE
  simp only [errB, gotB, Option.getD_some] at cE
  obtain ⟨D, HD⟩ : ∃ D, Hid ((⟨(L.drop (k + 3)).toArray⟩ : ByteArray) = D) := ⟨_, rfl⟩
  rw [HD.out] at hy cE
  obtain ⟨lb, Hlb⟩ : ∃ n, Hid (ba.length = n) := ⟨_, rfl⟩
  rw [Hlb.out] at hy2 hzb m0
  clear hm hm' hp hba h0
  obtain ⟨lL, HlL⟩ : ∃ n, Hid (L.length = n) := ⟨_, rfl⟩
  rw [HlL.out] at hy hz k0 k3 hd
  clear hB3 hb1 hR1
  go_enter Tryd.func9, Tryd.ntmps9
  go_wp2_with (first
    | (go_at_call 23; refine (cL _).mono ?_; rintro e wq ⟨rfl, rfl⟩)
    | (go_at_call 18; refine cA.mono ?_; rintro e W3 ⟨rfl, hB3⟩; clear cA; have gc3 := hB3.g.c3))
  refine (cC _).mono ?_
  rintro e wq ⟨rfl, rfl⟩
  clear cC
  go_wp2_with (go_at_call 24; refine (cD _).mono ?_; rintro e W4 ⟨a1, n1, k1, rfl, hR1, hn1, hb4⟩; clear cD gc3; have hB4 := hB3.below hb4; have gc3 := hB4.g.c3)
  refine (cR _).mono ?_
  rintro e wq ⟨rfl, rfl⟩
  clear cR
  go_wp2_with (first
    | (go_at_call 24; refine (cE _).mono ?_; rintro e W5 ⟨a2, n2, k2, rfl, hR2, hn2, hb5⟩; clear cE gc3; have hB5 := hB4.below hb5; obtain rfl : n2 = 32 := (by have := hR2.len; omega); have hcv := (hR1.carry (Nat.le_refl _) hb5).string; rw [str_tx] at hcv; have q5 := hB5.g.c0; have z5 := hB5.g.fz 0; have hB6 := hB5.s0 (.string ⟨(tx h).toArray⟩); have q6 := hB6.g.c1; have z6 := hB6.g.fz 1; have hB7 := hB6.s1 (.string ⟨n.toArray⟩); have q7 := hB7.g.c2; have z7 := hB7.g.fz 2; have hB8 := hB7.s2 (.slice a2 32 k2); have hBE := hB8; have rc0 := hBE.r.c0; have rf0 := hBE.r.fz 0; have nc0 := hBE.g.c0; have rc1 := hBE.r.c1; have rf1 := hBE.r.fz 1; have nc1 := hBE.g.c1; have rc2 := hBE.r.c2; have rf2 := hBE.r.fz 2; have nc2 := hBE.g.c2; have rc3 := hBE.r.c3; have rf3 := hBE.r.fz 3; have nc3 := hBE.g.c3)
    | (go_at_call 20; refine (cO _).mono ?_; rintro e wq ⟨rfl, rfl⟩))
  have hz4 := hB4.g.lt
  have hF := (((hBE.r.s0 (.string ⟨(tx h).toArray⟩)).s1 (.string ⟨n.toArray⟩)).s2 (.slice a2 32 k2)).s3 (.string ⟨ba.toArray⟩)
  have d0 := hF.c0
  have d1 := hF.c1
  have d2 := hF.c2
  have d3 := hF.c3
  refine bodyPost_ret (v := .tuple #[.agg #[.string ⟨(tx h).toArray⟩, .string ⟨n.toArray⟩, .slice a2 32 k2, .string ⟨ba.toArray⟩], .int .i64 0]) (by simp [results, Tryd.results9, go_sem, d0, d1, d2, d3]) rfl ⟨⟨a2, 32, k2, rfl, ((((((hR2.setOld (R := w.heap.size + 2) (i := 0) hn2 (by omega) _).setOld (R := w.heap.size + 2) (i := 1) hn2 (by omega) _).setOld (R := w.heap.size + 2) (i := 2) hn2 (by omega) _).setOld (R := w.heap.size) (i := 0) hn2 (by omega) _).setOld (R := w.heap.size) (i := 1) hn2 (by omega) _).setOld (R := w.heap.size) (i := 2) hn2 (by omega) _).setOld (R := w.heap.size) (i := 3) hn2 (by omega) _⟩, ?_⟩
  exact (((hBE.b.setCell (p := ⟨w.heap.size, 0, none⟩) (Nat.le_refl _) _).setCell (p := ⟨w.heap.size, 1, none⟩) (Nat.le_refl _) _).setCell (p := ⟨w.heap.size, 2, none⟩) (Nat.le_refl _) _).setCell (p := ⟨w.heap.size, 3, none⟩) (Nat.le_refl _) _


theorem refFinal_any (L : Tx) (w : World) : Calls Tryd.prog 9 #[.string ⟨L.toArray⟩] w fun e w' => ToldR (lastE L) e w' ∧ Below w.heap.size w w' := by
  by_cases hlen : 1024 < L.length
  · have e : lastE L = (noLP, 5) := by unfold lastE; rw [if_pos hlen]
    rw [e]; exact refFinal_long L w hlen
  have hl : L.length ≤ 1024 := by omega
  have HN : lastO L = none → lastE L = (noLP, 2) := lastE_none hl
  have HS : ∀ f, lastO L = some f → lastE L = (f, 0) := fun f h => by unfold lastE; rw [if_neg hlen, h]
  rcases lastF_cases [44, 112, 61] L (L.length + 1) with ⟨hp, _⟩ | ⟨k, _, hp, _⟩
  · rw [HN (ref_last_none hp)]; exact refFinal_no L w hl hp
  obtain ⟨hO, hk3⟩ := ref_last_some hp
  obtain ⟨ba, hba⟩ : ∃ b, L.take k = b := ⟨_, rfl⟩
  unfold refO at hO
  rw [hba] at hO
  by_cases h0 : ix 44 ba < ba.length
  · rw [if_pos h0] at hO
    cases h1 : sgn [99, 61] (prt ba) with
    | none => rw [HN (by rw [hO, h1]; rfl)]; exact refFinal_3 L w hl k hp hk3 ba hba h0 h1
    | some c =>
      rw [h1] at hO
      simp only [Option.bind_some] at hO
      cases h2 : dec (il c) with
      | none => rw [HN (by rw [hO, h2]; rfl)]; exact refFinal_4 L w hl k hp hk3 ba hba h0 c h1 h2
      | some h =>
        rw [h2] at hO
        simp only [Option.bind_some] at hO
        cases h3 : sgn [44, 114, 61] (rst ba) with
        | none => rw [HN (by rw [hO, h3]; rfl)]; exact refFinal_5 L w hl k hp hk3 ba hba h0 c h1 h h2 h3
        | some n =>
          rw [h3] at hO
          simp only [Option.bind_some] at hO
          cases h4 : nonceB 256 n with
          | false => rw [HN (by rw [hO, if_neg (by rw [h4]; simp)])]; exact refFinal_6 L w hl k hp hk3 ba hba h0 c h1 h h2 n h3 h4
          | true =>
            rw [if_pos h4] at hO
            cases h5 : dec (il (L.drop (k + 3))) with
            | none => rw [HN (by rw [hO, h5]; rfl)]; exact refFinal_7 L w hl k hp hk3 ba hba h0 c h1 h h2 n h3 h4 h5
            | some pf =>
              rw [h5] at hO
              simp only [Option.bind_some] at hO
              by_cases h6 : pf.length = 32
              · rw [if_pos h6] at hO
                rw [HS _ hO]; exact refFinal_9 L w hl k hp hk3 ba hba h0 c h1 h h2 n h3 h4 pf h5 h6
              · rw [if_neg h6] at hO
                rw [HN hO]; exact refFinal_8 L w hl k hp hk3 ba hba h0 c h1 h h2 n h3 h4 pf h5 h6
  · rw [if_neg h0] at hO
    rw [HN hO]; exact refFinal_2 L w hl k hp hk3 ba hba h0
end Go.Proofs.YtmilcknboaefkaaDoor
