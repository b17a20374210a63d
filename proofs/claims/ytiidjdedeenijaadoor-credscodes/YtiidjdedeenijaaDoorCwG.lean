/- creds' reader: a whole record. -/
import Derived.Test.YtiidjdedeenijaaDoorCwD
import Derived.Deep.MidRow
import Derived.Defers
import Derived.Recover
import Derived.Laws.Pointers
namespace Go.Proofs.YtiidjdedeenijaaDoor
open Go.RowKit

theorem keep_setCells (g : Nat) : ∀ (vs : List Value) (o : Nat) (w : World), Keep (fun j => j = g) w (w.setCells g o vs)
  | [], _, w => Keep.refl _ w
  | v :: r, o, w => by
    rw [World.setCells]
    exact ((Keep.refl (fun j => j = g) w).setCell (p := ⟨g, o, none⟩) rfl v).trans (keep_setCells g r (o + 1) _)
theorem heap_setCells (g : Nat) (t : TypeId) : ∀ (vs A B C : List Value) (w : World), vs.length = B.length → w.heap[g]? = some (.cells (A ++ (B ++ C)).toArray t (0, 0)) → (w.setCells g A.length vs).heap[g]? = some (.cells (A ++ (vs ++ C)).toArray t (0, 0))
  | [], A, B, C, w, hl, h => by
    obtain rfl : B = [] := List.eq_nil_of_length_eq_zero hl.symm
    exact h
  | v :: r, A, [], C, w, hl, h => by cases hl
  | v :: r, A, b :: B, C, w, hl, h => by
    rw [World.setCells]
    have h1 := heap_setCell_same w g A.length _ t v h
    have e : (A ++ (b :: B ++ C)).toArray.setIfInBounds A.length v = ((A ++ [v]) ++ (B ++ C)).toArray := by simp
    rw [e] at h1
    have h2 := heap_setCells g t r (A ++ [v]) B C _ (by simpa using hl) h1
    have e2 : (A ++ [v]).length = A.length + 1 := by simp
    rw [e2] at h2
    rw [h2]
    simp
theorem RcAt.fz {w : World} {g : Nat} {cs : List Value} (h : RcAt w g cs) (j : Nat) : w.frozen? ⟨g, j, none⟩ = false := frozen_of_row w g j _ _ h
theorem RcAt.there {w : World} {g : Nat} {cs : List Value} (h : RcAt w g cs) (o n : Nat) (hl : o + n ≤ cs.length) : w.there g o n := fun j hj =>
  ⟨by rw [h.cell, List.getElem?_eq_getElem (show o + j < cs.length by omega)]; rfl, h.fz _⟩
theorem RcAt.set0 {w : World} {g : Nat} {x0 x1 x2 : Value} {K V : List Int} (h : RcAt w g (recL x0 x1 x2 K V)) (v : Value) : RcAt (w.setCell ⟨g, 0, none⟩ v) g (recL v x1 x2 K V) := by
  refine (heap_setCell_same w g 0 _ _ v h).trans ?_
  simp [recL]
theorem RcAt.set1 {w : World} {g : Nat} {x0 x1 x2 : Value} {K V : List Int} (h : RcAt w g (recL x0 x1 x2 K V)) (v : Value) : RcAt (w.setCell ⟨g, 1, none⟩ v) g (recL x0 v x2 K V) := by
  refine (heap_setCell_same w g 1 _ _ v h).trans ?_
  simp [recL]
theorem RcAt.set2 {w : World} {g : Nat} {x0 x1 x2 : Value} {K V : List Int} (h : RcAt w g (recL x0 x1 x2 K V)) (v : Value) : RcAt (w.setCell ⟨g, 2, none⟩ v) g (recL x0 x1 v K V) := by
  refine (heap_setCell_same w g 2 _ _ v h).trans ?_
  simp [recL]
theorem wp_store_K {ops : Array Oper} {rest : List Oper} {o : Oper} {a : Act} {w : World} {Q : Exit → Act → World → Prop} (hgd : o.guard = none) (x y : Operand) (ho : o.op = .store 26 x y)
    (g : Nat) (hx : a.eval x = .pointer (some ⟨g, 3, none⟩)) (L : List Int) (hy : a.eval y = .agg (ic .u8 L).toArray) (hL : L.length = 32) (x0 x1 x2 : Value) (K V : List Int) (hG : RcAt w g (recL x0 x1 x2 K V)) (hK : K.length = 32) (hV : V.length = 32)
    (h : ∀ w1, RcAt w1 g (recL x0 x1 x2 L V) → Keep (fun j => j = g) w w1 → wpList Tryd.prog ops Q rest (a.put o.dst undef) w1) : wpList Tryd.prog ops Q (o :: rest) a w := by
  refine wpList_store_mid hgd 26 x y ho g 3 _ hx hy ?_ ?_ (ic_one .u8 L) (h _ ?_ (keep_setCells g _ _ _))
  · exact hG.there 3 _ (by rw [rec_len x0 x1 x2 hK hV]; simp [ic_len, hL])
  · rw [show (Tryd.prog.info? 26).map (·.size) = some 32 from by kernel_rfl]; simp [ic_len, hL]
  · exact heap_setCells g 28 (ic .u8 L) [x0, x1, x2] (ic .u8 K) (ic .u8 V) w (by simp [ic_len, hL, hK]) hG
theorem wp_store_V {ops : Array Oper} {rest : List Oper} {o : Oper} {a : Act} {w : World} {Q : Exit → Act → World → Prop} (hgd : o.guard = none) (x y : Operand) (ho : o.op = .store 26 x y)
    (g : Nat) (hx : a.eval x = .pointer (some ⟨g, 35, none⟩)) (L : List Int) (hy : a.eval y = .agg (ic .u8 L).toArray) (hL : L.length = 32) (x0 x1 x2 : Value) (K V : List Int) (hG : RcAt w g (recL x0 x1 x2 K V)) (hK : K.length = 32) (hV : V.length = 32)
    (h : ∀ w1, RcAt w1 g (recL x0 x1 x2 K L) → Keep (fun j => j = g) w w1 → wpList Tryd.prog ops Q rest (a.put o.dst undef) w1) : wpList Tryd.prog ops Q (o :: rest) a w := by
  refine wpList_store_mid hgd 26 x y ho g 35 _ hx hy ?_ ?_ (ic_one .u8 L) (h _ ?_ (keep_setCells g _ _ _))
  · exact hG.there 35 _ (by rw [rec_len x0 x1 x2 hK hV]; simp [ic_len, hL])
  · rw [show (Tryd.prog.info? 26).map (·.size) = some 32 from by kernel_rfl]; simp [ic_len, hL]
  · have e : recL x0 x1 x2 K V = (x0 :: x1 :: x2 :: ic .u8 K) ++ (ic .u8 V ++ []) := by simp [recL]
    have e2 : recL x0 x1 x2 K L = (x0 :: x1 :: x2 :: ic .u8 K) ++ (ic .u8 L ++ []) := by simp [recL]
    have hn : (x0 :: x1 :: x2 :: ic .u8 K).length = 35 := by simp [ic_len, hK]
    have := heap_setCells g 28 (ic .u8 L) (x0 :: x1 :: x2 :: ic .u8 K) (ic .u8 V) [] w (by simp [ic_len, hL, hV]) (by rw [← e]; exact hG)
    rw [hn, ← e2] at this
    exact this

theorem Lft.other {F : Nat → Prop} {w w' : World} {r N g : Nat} {xs : List Int} (h : Lft F w r N xs) (hk : Keep (fun j => j = g) w w') (hg : F g) (hr : r ≠ g) : Lft F w' r N xs := by
  obtain ⟨b, m, d, h1, h2, h3⟩ := h
  exact ⟨b, m, d, ⟨(hk.block r h1.lt hr).trans h1.blk, h1.rd.keep hk (fun ad had e => h3 ad had (by rw [e]; exact hg))⟩, h2, h3⟩

/-- What the reader meets, one part behind the other. -/
def rx1 (xs : List Int) : List Int := usrR xs
def rx2 (xs : List Int) : List Int := saltR (rx1 xs)
def rx3 (xs : List Int) : List Int := (rx2 xs).drop (scan (rx2 xs) 0 0).2.1
def rx4 (xs : List Int) : List Int := (rx3 xs).drop 32
def rx5 (xs : List Int) : List Int := (rx4 xs).drop 32
def recOk (xs : List Int) : Bool := decide (xs.length ≤ 164) && (usrOk xs && (saltOk (rx1 xs) && (numOk (rx2 xs) 4096 && (decide (32 ≤ (rx3 xs).length) && (decide (32 ≤ (rx4 xs).length) && decide ((rx5 xs).length = 0))))))

set_option maxRecDepth 100000 in
set_option maxHeartbeats 1600000 in
theorem record_no1 (r : Nat) (a : Option Addr) (n c : Nat) (xs : List Int) (w : World) (hA : RAt w r a n c xs) (_ : n ≤ 1000000) (_ : Lib.Utf8Tabs 0 1 w) (_ : Tabs w) (h1 : ¬ xs.length ≤ 164) :
    Calls Tryd.prog 37 #[.pointer (some ⟨r, 0, none⟩)] w fun e w' => e = .panicked gaveC ∧ Keep (fun j => j = r) w w' := by
  have hrw := hA.lt
  go_enter Tryd.func37, Tryd.ntmps37
  go_upto_region 1 with (refine wp_alloc_row rfl 28 rfl rec0 67 zero_rec ?_; intro g w1 G1 hg hb1)
  have A1 := hA.below hb1
  have q1 := A1.cell
  have G1 : RcAt w1 g (recL (.string ⟨#[]⟩) (.slice none 0 0) (.int .i64 0) Z32 Z32) := G1
  have hgl := G1.lt
  have hgr : g ≠ r := by omega
  have k1 : Keep (fun j => j = r) w w1 := Keep.ofBelow hb1
  have hz1 : ¬ (n : Int) ≤ 164 := by have := hA.rd.len; omega
  go_wp2_with (go_at_call 56; refine (ask_no _).mono ?_; rintro e w1 ⟨rfl, rfl⟩)
  exact ⟨rfl, rfl, k1⟩

set_option maxRecDepth 100000 in
set_option maxHeartbeats 1600000 in
theorem record_no2 (r : Nat) (a : Option Addr) (n c : Nat) (xs : List Int) (w : World) (hA : RAt w r a n c xs) (hn : n ≤ 1000000) (hT : Lib.Utf8Tabs 0 1 w) (hV : Tabs w) (h1 : xs.length ≤ 164) (h2 : usrOk xs = false) :
    Calls Tryd.prog 37 #[.pointer (some ⟨r, 0, none⟩)] w fun e w' => e = .panicked gaveC ∧ Keep (fun j => j = r) w w' := by
  have hrw := hA.lt
  go_enter Tryd.func37, Tryd.ntmps37
  go_upto_region 1 with (refine wp_alloc_row rfl 28 rfl rec0 67 zero_rec ?_; intro g w1 G1 hg hb1)
  have A1 := hA.below hb1
  have q1 := A1.cell
  have G1 : RcAt w1 g (recL (.string ⟨#[]⟩) (.slice none 0 0) (.int .i64 0) Z32 Z32) := G1
  have hgl := G1.lt
  have hgr : g ≠ r := by omega
  have k1 : Keep (fun j => j = r) w w1 := Keep.ofBelow hb1
  have hz1 : (n : Int) ≤ 164 := by have := hA.rd.len; omega
  go_upto_region 2 with (go_at_call 56; refine (ask_yes _).mono ?_; rintro e w1 ⟨rfl, rfl⟩)
  go_wp2_with (go_at_call 57; refine (user_no r a n c xs _ A1 hn (Nm.tabs_below hT hb1) (hV.carry hb1) h2).mono ?_; rintro e w2 ⟨rfl, hb2⟩)
  exact ⟨rfl, rfl, k1.trans (Keep.ofBelow hb2)⟩

set_option maxRecDepth 100000 in
set_option maxHeartbeats 1600000 in
theorem record_no3 (r : Nat) (a : Option Addr) (n c : Nat) (xs : List Int) (w : World) (hA : RAt w r a n c xs) (hn : n ≤ 1000000) (hT : Lib.Utf8Tabs 0 1 w) (hV : Tabs w) (h1 : xs.length ≤ 164) (h2 : usrOk xs = true) (h3 : saltOk (rx1 xs) = false) :
    Calls Tryd.prog 37 #[.pointer (some ⟨r, 0, none⟩)] w fun e w' => e = .panicked gaveC ∧ Keep (fun j => j = r) w w' := by
  have hrw := hA.lt
  go_enter Tryd.func37, Tryd.ntmps37
  go_upto_region 1 with (refine wp_alloc_row rfl 28 rfl rec0 67 zero_rec ?_; intro g w1 G1 hg hb1)
  have A1 := hA.below hb1
  have q1 := A1.cell
  have G1 : RcAt w1 g (recL (.string ⟨#[]⟩) (.slice none 0 0) (.int .i64 0) Z32 Z32) := G1
  have hgl := G1.lt
  have hgr : g ≠ r := by omega
  have k1 : Keep (fun j => j = r) w w1 := Keep.ofBelow hb1
  have hz1 : (n : Int) ≤ 164 := by have := hA.rd.len; omega
  go_upto_region 2 with (go_at_call 56; refine (ask_yes _).mono ?_; rintro e w1 ⟨rfl, rfl⟩)
  go_upto_region 3 with (go_at_call 57; refine (user_ok r a n c xs _ A1 hn (Nm.tabs_below hT hb1) (hV.carry hb1) h2).mono ?_; rintro e w2 ⟨rfl, ⟨b2, m2, d2, A2, hm2, hnw2⟩, hk2⟩; have G2 := G1.keep hk2 hgr; have q2 : w2.cell? ⟨g, 0, none⟩ = some (.string ⟨#[]⟩) := G2.cell 0; have z2 := G2.fz 0)
  have L2 : Lft (fun j => j = r ∨ j = g) w2 r n (rx1 xs) := ⟨b2, m2, d2, A2, hm2, fun ad had e => by have := hnw2 ad had; omega⟩
  have kg2 : Keep (fun j => j = g) w2 (w2.setCell ⟨g, 0, none⟩ (.string (usrT xs))) := (Keep.refl (fun j => j = g) w2).setCell (p := ⟨g, 0, none⟩) rfl _
  have L3 := L2.other kg2 (Or.inr rfl) (fun e => hgr e.symm)
  have G3 := G2.set0 (.string (usrT xs))
  have k3 : Keep (fun j => j = r) w _ := (k1.trans hk2).andThen kg2 (fun j hj e => by omega)
  have s3 : w1.heap.size ≤ (w2.setCell ⟨g, 0, none⟩ (.string (usrT xs))).heap.size := Nat.le_trans hk2.size kg2.size
  generalize hU : usrT xs = U at *
  generalize w2.setCell ⟨g, 0, none⟩ (.string U) = w3 at L3 G3 k3 s3 ⊢
  clear kg2 q2 z2 A2 L2
  go_wp2_with (go_at_call 58; refine (salt_no (fun j => j = r ∨ j = g) r n (rx1 xs) _ L3 (Or.inl rfl) hn h3).mono ?_; rintro e w4 ⟨rfl, hk4⟩)
  exact ⟨rfl, rfl, k3.trans hk4⟩

set_option maxRecDepth 100000 in
set_option maxHeartbeats 1600000 in
theorem record_no4 (r : Nat) (a : Option Addr) (n c : Nat) (xs : List Int) (w : World) (hA : RAt w r a n c xs) (hn : n ≤ 1000000) (hT : Lib.Utf8Tabs 0 1 w) (hV : Tabs w) (h1 : xs.length ≤ 164) (h2 : usrOk xs = true) (h3 : saltOk (rx1 xs) = true) (h4 : numOk (rx2 xs) 4096 = false) :
    Calls Tryd.prog 37 #[.pointer (some ⟨r, 0, none⟩)] w fun e w' => e = .panicked gaveC ∧ Keep (fun j => j = r) w w' := by
  have hrw := hA.lt
  go_enter Tryd.func37, Tryd.ntmps37
  go_upto_region 1 with (refine wp_alloc_row rfl 28 rfl rec0 67 zero_rec ?_; intro g w1 G1 hg hb1)
  have A1 := hA.below hb1
  have q1 := A1.cell
  have G1 : RcAt w1 g (recL (.string ⟨#[]⟩) (.slice none 0 0) (.int .i64 0) Z32 Z32) := G1
  have hgl := G1.lt
  have hgr : g ≠ r := by omega
  have k1 : Keep (fun j => j = r) w w1 := Keep.ofBelow hb1
  have hz1 : (n : Int) ≤ 164 := by have := hA.rd.len; omega
  go_upto_region 2 with (go_at_call 56; refine (ask_yes _).mono ?_; rintro e w1 ⟨rfl, rfl⟩)
  go_upto_region 3 with (go_at_call 57; refine (user_ok r a n c xs _ A1 hn (Nm.tabs_below hT hb1) (hV.carry hb1) h2).mono ?_; rintro e w2 ⟨rfl, ⟨b2, m2, d2, A2, hm2, hnw2⟩, hk2⟩; have G2 := G1.keep hk2 hgr; have q2 : w2.cell? ⟨g, 0, none⟩ = some (.string ⟨#[]⟩) := G2.cell 0; have z2 := G2.fz 0)
  have L2 : Lft (fun j => j = r ∨ j = g) w2 r n (rx1 xs) := ⟨b2, m2, d2, A2, hm2, fun ad had e => by have := hnw2 ad had; omega⟩
  have kg2 : Keep (fun j => j = g) w2 (w2.setCell ⟨g, 0, none⟩ (.string (usrT xs))) := (Keep.refl (fun j => j = g) w2).setCell (p := ⟨g, 0, none⟩) rfl _
  have L3 := L2.other kg2 (Or.inr rfl) (fun e => hgr e.symm)
  have G3 := G2.set0 (.string (usrT xs))
  have k3 : Keep (fun j => j = r) w _ := (k1.trans hk2).andThen kg2 (fun j hj e => by omega)
  have s3 : w1.heap.size ≤ (w2.setCell ⟨g, 0, none⟩ (.string (usrT xs))).heap.size := Nat.le_trans hk2.size kg2.size
  generalize hU : usrT xs = U at *
  generalize w2.setCell ⟨g, 0, none⟩ (.string U) = w3 at L3 G3 k3 s3 ⊢
  clear kg2 q2 z2 A2 L2
  go_upto_region 4 with (go_at_call 58; refine (salt_ok (fun j => j = r ∨ j = g) r n (rx1 xs) _ L3 (Or.inl rfl) (fun k hk => by omega) hn h3).mono ?_; rintro e w4 ⟨⟨sa, sn, sc, rfl, R4, hs4⟩, L4, hk4⟩; have G4 := G3.keep hk4 hgr; have q4 : w4.cell? ⟨g, 1, none⟩ = some (.slice none 0 0) := G4.cell 1; have z4 := G4.fz 1)
  have kg4 : Keep (fun j => j = g) w4 (w4.setCell ⟨g, 1, none⟩ (.slice sa sn sc)) := (Keep.refl (fun j => j = g) w4).setCell (p := ⟨g, 1, none⟩) rfl _
  have L5 : Lft (fun j => j = r ∨ j = g) _ r n (rx2 xs) := L4.other kg4 (Or.inr rfl) (fun e => hgr e.symm)
  have G5 := G4.set1 (.slice sa sn sc)
  have k5 : Keep (fun j => j = r) w _ := (k3.trans hk4).andThen kg4 (fun j hj e => by omega)
  have hsl : ∀ ad, sa = some ad → ad.block ≠ r ∧ ad.block ≠ g ∧ w.heap.size ≤ ad.block := fun ad had => by have := hs4 ad had; have := hb1.size; exact ⟨by omega, by omega, by omega⟩
  have R5 := R4.keep kg4 (fun ad had e => (hsl ad had).2.1 e)
  generalize w4.setCell ⟨g, 1, none⟩ (.slice sa sn sc) = w5 at L5 G5 k5 R5 ⊢
  clear kg4 q4 z4 L4 L3 G4 R4 hs4
  obtain ⟨b5, m5, d5, A5, hm5, hn5⟩ := L5
  go_wp2_with (go_at_call 59; refine (number_no r b5 m5 d5 (rx2 xs) 4096 _ A5 (by omega) (by omega) h4).mono ?_; rintro e w6 ⟨rfl, hb6⟩)
  exact ⟨rfl, rfl, k5.trans (Keep.ofBelow hb6)⟩

set_option maxRecDepth 100000 in
set_option maxHeartbeats 1600000 in
theorem record_no5 (r : Nat) (a : Option Addr) (n c : Nat) (xs : List Int) (w : World) (hA : RAt w r a n c xs) (hn : n ≤ 1000000) (hT : Lib.Utf8Tabs 0 1 w) (hV : Tabs w) (h1 : xs.length ≤ 164) (h2 : usrOk xs = true) (h3 : saltOk (rx1 xs) = true) (h4 : numOk (rx2 xs) 4096 = true) (h5 : ¬ 32 ≤ (rx3 xs).length) :
    Calls Tryd.prog 37 #[.pointer (some ⟨r, 0, none⟩)] w fun e w' => e = .panicked gaveC ∧ Keep (fun j => j = r) w w' := by
  have hrw := hA.lt
  go_enter Tryd.func37, Tryd.ntmps37
  go_upto_region 1 with (refine wp_alloc_row rfl 28 rfl rec0 67 zero_rec ?_; intro g w1 G1 hg hb1)
  have A1 := hA.below hb1
  have q1 := A1.cell
  have G1 : RcAt w1 g (recL (.string ⟨#[]⟩) (.slice none 0 0) (.int .i64 0) Z32 Z32) := G1
  have hgl := G1.lt
  have hgr : g ≠ r := by omega
  have k1 : Keep (fun j => j = r) w w1 := Keep.ofBelow hb1
  have hz1 : (n : Int) ≤ 164 := by have := hA.rd.len; omega
  go_upto_region 2 with (go_at_call 56; refine (ask_yes _).mono ?_; rintro e w1 ⟨rfl, rfl⟩)
  go_upto_region 3 with (go_at_call 57; refine (user_ok r a n c xs _ A1 hn (Nm.tabs_below hT hb1) (hV.carry hb1) h2).mono ?_; rintro e w2 ⟨rfl, ⟨b2, m2, d2, A2, hm2, hnw2⟩, hk2⟩; have G2 := G1.keep hk2 hgr; have q2 : w2.cell? ⟨g, 0, none⟩ = some (.string ⟨#[]⟩) := G2.cell 0; have z2 := G2.fz 0)
  have L2 : Lft (fun j => j = r ∨ j = g) w2 r n (rx1 xs) := ⟨b2, m2, d2, A2, hm2, fun ad had e => by have := hnw2 ad had; omega⟩
  have kg2 : Keep (fun j => j = g) w2 (w2.setCell ⟨g, 0, none⟩ (.string (usrT xs))) := (Keep.refl (fun j => j = g) w2).setCell (p := ⟨g, 0, none⟩) rfl _
  have L3 := L2.other kg2 (Or.inr rfl) (fun e => hgr e.symm)
  have G3 := G2.set0 (.string (usrT xs))
  have k3 : Keep (fun j => j = r) w _ := (k1.trans hk2).andThen kg2 (fun j hj e => by omega)
  have s3 : w1.heap.size ≤ (w2.setCell ⟨g, 0, none⟩ (.string (usrT xs))).heap.size := Nat.le_trans hk2.size kg2.size
  generalize hU : usrT xs = U at *
  generalize w2.setCell ⟨g, 0, none⟩ (.string U) = w3 at L3 G3 k3 s3 ⊢
  clear kg2 q2 z2 A2 L2
  go_upto_region 4 with (go_at_call 58; refine (salt_ok (fun j => j = r ∨ j = g) r n (rx1 xs) _ L3 (Or.inl rfl) (fun k hk => by omega) hn h3).mono ?_; rintro e w4 ⟨⟨sa, sn, sc, rfl, R4, hs4⟩, L4, hk4⟩; have G4 := G3.keep hk4 hgr; have q4 : w4.cell? ⟨g, 1, none⟩ = some (.slice none 0 0) := G4.cell 1; have z4 := G4.fz 1)
  have kg4 : Keep (fun j => j = g) w4 (w4.setCell ⟨g, 1, none⟩ (.slice sa sn sc)) := (Keep.refl (fun j => j = g) w4).setCell (p := ⟨g, 1, none⟩) rfl _
  have L5 : Lft (fun j => j = r ∨ j = g) _ r n (rx2 xs) := L4.other kg4 (Or.inr rfl) (fun e => hgr e.symm)
  have G5 := G4.set1 (.slice sa sn sc)
  have k5 : Keep (fun j => j = r) w _ := (k3.trans hk4).andThen kg4 (fun j hj e => by omega)
  have hsl : ∀ ad, sa = some ad → ad.block ≠ r ∧ ad.block ≠ g ∧ w.heap.size ≤ ad.block := fun ad had => by have := hs4 ad had; have := hb1.size; exact ⟨by omega, by omega, by omega⟩
  have R5 := R4.keep kg4 (fun ad had e => (hsl ad had).2.1 e)
  generalize w4.setCell ⟨g, 1, none⟩ (.slice sa sn sc) = w5 at L5 G5 k5 R5 ⊢
  clear kg4 q4 z4 L4 L3 G4 R4 hs4
  obtain ⟨b5, m5, d5, A5, hm5, hn5⟩ := L5
  go_upto_region 5 with (go_at_call 59; refine (number_ok r b5 m5 d5 (rx2 xs) 4096 _ A5 (by omega) (by omega) h4).mono ?_; rintro e w6 ⟨rfl, ⟨b6, m6, d6, A6, hm6, hnw6⟩, hk6⟩; have G6 := G5.keep hk6 hgr; have q6 : w6.cell? ⟨g, 2, none⟩ = some (.int .i64 0) := G6.cell 2; have z6 := G6.fz 2)
  have hg5 := G5.lt
  have hr5 := A5.lt
  have L6 : Lft (fun j => j = r ∨ j = g) w6 r n (rx3 xs) := ⟨b6, m6, d6, A6, by omega, fun ad had e => by have := hnw6 ad had; omega⟩
  have R6 := R5.keep hk6 (fun ad had e => (hsl ad had).1 e)
  generalize hZ : (((scan (rx2 xs) 0 0).1 : Nat) : Int) = Z at *
  have kg6 : Keep (fun j => j = g) w6 (w6.setCell ⟨g, 2, none⟩ (.int .i64 Z)) := (Keep.refl (fun j => j = g) w6).setCell (p := ⟨g, 2, none⟩) rfl _
  have L7 := L6.other kg6 (Or.inr rfl) (fun e => hgr e.symm)
  have G7 := G6.set2 (.int .i64 Z)
  have k7 : Keep (fun j => j = r) w _ := (k5.trans hk6).andThen kg6 (fun j hj e => by omega)
  have R7 := R6.keep kg6 (fun ad had e => (hsl ad had).2.1 e)
  generalize w6.setCell ⟨g, 2, none⟩ (.int .i64 Z) = w7 at L7 G7 k7 R7 ⊢
  clear kg6 q6 z6 A6 L6 R6 G6
  go_wp2_with (go_at_call 60; refine (key_no (fun j => j = r ∨ j = g) r n (rx3 xs) _ L7 (Or.inl rfl) (by omega)).mono ?_; rintro e w8 ⟨rfl, hb8⟩)
  exact ⟨rfl, rfl, k7.trans (Keep.ofBelow hb8)⟩

set_option maxRecDepth 100000 in
set_option maxHeartbeats 1600000 in
theorem record_no6 (r : Nat) (a : Option Addr) (n c : Nat) (xs : List Int) (w : World) (hA : RAt w r a n c xs) (hn : n ≤ 1000000) (hT : Lib.Utf8Tabs 0 1 w) (hV : Tabs w) (h1 : xs.length ≤ 164) (h2 : usrOk xs = true) (h3 : saltOk (rx1 xs) = true) (h4 : numOk (rx2 xs) 4096 = true) (h5 : 32 ≤ (rx3 xs).length) (h6 : ¬ 32 ≤ (rx4 xs).length) :
    Calls Tryd.prog 37 #[.pointer (some ⟨r, 0, none⟩)] w fun e w' => e = .panicked gaveC ∧ Keep (fun j => j = r) w w' := by
  have hrw := hA.lt
  go_enter Tryd.func37, Tryd.ntmps37
  go_upto_region 1 with (refine wp_alloc_row rfl 28 rfl rec0 67 zero_rec ?_; intro g w1 G1 hg hb1)
  have A1 := hA.below hb1
  have q1 := A1.cell
  have G1 : RcAt w1 g (recL (.string ⟨#[]⟩) (.slice none 0 0) (.int .i64 0) Z32 Z32) := G1
  have hgl := G1.lt
  have hgr : g ≠ r := by omega
  have k1 : Keep (fun j => j = r) w w1 := Keep.ofBelow hb1
  have hz1 : (n : Int) ≤ 164 := by have := hA.rd.len; omega
  go_upto_region 2 with (go_at_call 56; refine (ask_yes _).mono ?_; rintro e w1 ⟨rfl, rfl⟩)
  go_upto_region 3 with (go_at_call 57; refine (user_ok r a n c xs _ A1 hn (Nm.tabs_below hT hb1) (hV.carry hb1) h2).mono ?_; rintro e w2 ⟨rfl, ⟨b2, m2, d2, A2, hm2, hnw2⟩, hk2⟩; have G2 := G1.keep hk2 hgr; have q2 : w2.cell? ⟨g, 0, none⟩ = some (.string ⟨#[]⟩) := G2.cell 0; have z2 := G2.fz 0)
  have L2 : Lft (fun j => j = r ∨ j = g) w2 r n (rx1 xs) := ⟨b2, m2, d2, A2, hm2, fun ad had e => by have := hnw2 ad had; omega⟩
  have kg2 : Keep (fun j => j = g) w2 (w2.setCell ⟨g, 0, none⟩ (.string (usrT xs))) := (Keep.refl (fun j => j = g) w2).setCell (p := ⟨g, 0, none⟩) rfl _
  have L3 := L2.other kg2 (Or.inr rfl) (fun e => hgr e.symm)
  have G3 := G2.set0 (.string (usrT xs))
  have k3 : Keep (fun j => j = r) w _ := (k1.trans hk2).andThen kg2 (fun j hj e => by omega)
  have s3 : w1.heap.size ≤ (w2.setCell ⟨g, 0, none⟩ (.string (usrT xs))).heap.size := Nat.le_trans hk2.size kg2.size
  generalize hU : usrT xs = U at *
  generalize w2.setCell ⟨g, 0, none⟩ (.string U) = w3 at L3 G3 k3 s3 ⊢
  clear kg2 q2 z2 A2 L2
  go_upto_region 4 with (go_at_call 58; refine (salt_ok (fun j => j = r ∨ j = g) r n (rx1 xs) _ L3 (Or.inl rfl) (fun k hk => by omega) hn h3).mono ?_; rintro e w4 ⟨⟨sa, sn, sc, rfl, R4, hs4⟩, L4, hk4⟩; have G4 := G3.keep hk4 hgr; have q4 : w4.cell? ⟨g, 1, none⟩ = some (.slice none 0 0) := G4.cell 1; have z4 := G4.fz 1)
  have kg4 : Keep (fun j => j = g) w4 (w4.setCell ⟨g, 1, none⟩ (.slice sa sn sc)) := (Keep.refl (fun j => j = g) w4).setCell (p := ⟨g, 1, none⟩) rfl _
  have L5 : Lft (fun j => j = r ∨ j = g) _ r n (rx2 xs) := L4.other kg4 (Or.inr rfl) (fun e => hgr e.symm)
  have G5 := G4.set1 (.slice sa sn sc)
  have k5 : Keep (fun j => j = r) w _ := (k3.trans hk4).andThen kg4 (fun j hj e => by omega)
  have hsl : ∀ ad, sa = some ad → ad.block ≠ r ∧ ad.block ≠ g ∧ w.heap.size ≤ ad.block := fun ad had => by have := hs4 ad had; have := hb1.size; exact ⟨by omega, by omega, by omega⟩
  have R5 := R4.keep kg4 (fun ad had e => (hsl ad had).2.1 e)
  generalize w4.setCell ⟨g, 1, none⟩ (.slice sa sn sc) = w5 at L5 G5 k5 R5 ⊢
  clear kg4 q4 z4 L4 L3 G4 R4 hs4
  obtain ⟨b5, m5, d5, A5, hm5, hn5⟩ := L5
  go_upto_region 5 with (go_at_call 59; refine (number_ok r b5 m5 d5 (rx2 xs) 4096 _ A5 (by omega) (by omega) h4).mono ?_; rintro e w6 ⟨rfl, ⟨b6, m6, d6, A6, hm6, hnw6⟩, hk6⟩; have G6 := G5.keep hk6 hgr; have q6 : w6.cell? ⟨g, 2, none⟩ = some (.int .i64 0) := G6.cell 2; have z6 := G6.fz 2)
  have hg5 := G5.lt
  have hr5 := A5.lt
  have L6 : Lft (fun j => j = r ∨ j = g) w6 r n (rx3 xs) := ⟨b6, m6, d6, A6, by omega, fun ad had e => by have := hnw6 ad had; omega⟩
  have R6 := R5.keep hk6 (fun ad had e => (hsl ad had).1 e)
  generalize hZ : (((scan (rx2 xs) 0 0).1 : Nat) : Int) = Z at *
  have kg6 : Keep (fun j => j = g) w6 (w6.setCell ⟨g, 2, none⟩ (.int .i64 Z)) := (Keep.refl (fun j => j = g) w6).setCell (p := ⟨g, 2, none⟩) rfl _
  have L7 := L6.other kg6 (Or.inr rfl) (fun e => hgr e.symm)
  have G7 := G6.set2 (.int .i64 Z)
  have k7 : Keep (fun j => j = r) w _ := (k5.trans hk6).andThen kg6 (fun j hj e => by omega)
  have R7 := R6.keep kg6 (fun ad had e => (hsl ad had).2.1 e)
  generalize w6.setCell ⟨g, 2, none⟩ (.int .i64 Z) = w7 at L7 G7 k7 R7 ⊢
  clear kg6 q6 z6 A6 L6 R6 G6
  have l3 : ((rx3 xs).take 32).length = 32 := by rw [List.length_take]; omega
  go_upto_region 6 with (first
    | (go_at_call 60; refine (key_ok (fun j => j = r ∨ j = g) r n (rx3 xs) _ L7 (Or.inl rfl) hn h5).mono ?_; rintro e w8 ⟨rfl, L8, hk8⟩; have G8 := G7.keep hk8 hgr)
    | (refine wp_store_K rfl (.tmp 21) (.tmp 20) rfl g rfl _ rfl l3 _ _ _ _ _ G8 (by simp [Z32]) (by simp [Z32]) ?_; intro w9 G9 kg9))
  have L9 : Lft (fun j => j = r ∨ j = g) w9 r n (rx4 xs) := L8.other kg9 (Or.inr rfl) (fun e => hgr e.symm)
  have k9 : Keep (fun j => j = r) w w9 := (k7.trans hk8).andThen kg9 (fun j hj e => by omega)
  have R9 := (R7.keep hk8 (fun ad had e => (hsl ad had).1 e)).keep kg9 (fun ad had e => (hsl ad had).2.1 e)
  clear L8 L7 R7 G8 G7 kg9
  go_wp2_with (go_at_call 60; refine (key_no (fun j => j = r ∨ j = g) r n (rx4 xs) _ L9 (Or.inl rfl) (by omega)).mono ?_; rintro e w10 ⟨rfl, hb10⟩)
  exact ⟨rfl, rfl, k9.trans (Keep.ofBelow hb10)⟩

set_option maxRecDepth 100000 in
set_option maxHeartbeats 1600000 in
theorem record_no7 (r : Nat) (a : Option Addr) (n c : Nat) (xs : List Int) (w : World) (hA : RAt w r a n c xs) (hn : n ≤ 1000000) (hT : Lib.Utf8Tabs 0 1 w) (hV : Tabs w) (h1 : xs.length ≤ 164) (h2 : usrOk xs = true) (h3 : saltOk (rx1 xs) = true) (h4 : numOk (rx2 xs) 4096 = true) (h5 : 32 ≤ (rx3 xs).length) (h6 : 32 ≤ (rx4 xs).length) (h7 : ¬ (rx5 xs).length = 0) :
    Calls Tryd.prog 37 #[.pointer (some ⟨r, 0, none⟩)] w fun e w' => e = .panicked gaveC ∧ Keep (fun j => j = r) w w' := by
  have hrw := hA.lt
  go_enter Tryd.func37, Tryd.ntmps37
  go_upto_region 1 with (refine wp_alloc_row rfl 28 rfl rec0 67 zero_rec ?_; intro g w1 G1 hg hb1)
  have A1 := hA.below hb1
  have q1 := A1.cell
  have G1 : RcAt w1 g (recL (.string ⟨#[]⟩) (.slice none 0 0) (.int .i64 0) Z32 Z32) := G1
  have hgl := G1.lt
  have hgr : g ≠ r := by omega
  have k1 : Keep (fun j => j = r) w w1 := Keep.ofBelow hb1
  have hz1 : (n : Int) ≤ 164 := by have := hA.rd.len; omega
  go_upto_region 2 with (go_at_call 56; refine (ask_yes _).mono ?_; rintro e w1 ⟨rfl, rfl⟩)
  go_upto_region 3 with (go_at_call 57; refine (user_ok r a n c xs _ A1 hn (Nm.tabs_below hT hb1) (hV.carry hb1) h2).mono ?_; rintro e w2 ⟨rfl, ⟨b2, m2, d2, A2, hm2, hnw2⟩, hk2⟩; have G2 := G1.keep hk2 hgr; have q2 : w2.cell? ⟨g, 0, none⟩ = some (.string ⟨#[]⟩) := G2.cell 0; have z2 := G2.fz 0)
  have L2 : Lft (fun j => j = r ∨ j = g) w2 r n (rx1 xs) := ⟨b2, m2, d2, A2, hm2, fun ad had e => by have := hnw2 ad had; omega⟩
  have kg2 : Keep (fun j => j = g) w2 (w2.setCell ⟨g, 0, none⟩ (.string (usrT xs))) := (Keep.refl (fun j => j = g) w2).setCell (p := ⟨g, 0, none⟩) rfl _
  have L3 := L2.other kg2 (Or.inr rfl) (fun e => hgr e.symm)
  have G3 := G2.set0 (.string (usrT xs))
  have k3 : Keep (fun j => j = r) w _ := (k1.trans hk2).andThen kg2 (fun j hj e => by omega)
  have s3 : w1.heap.size ≤ (w2.setCell ⟨g, 0, none⟩ (.string (usrT xs))).heap.size := Nat.le_trans hk2.size kg2.size
  generalize hU : usrT xs = U at *
  generalize w2.setCell ⟨g, 0, none⟩ (.string U) = w3 at L3 G3 k3 s3 ⊢
  clear kg2 q2 z2 A2 L2
  go_upto_region 4 with (go_at_call 58; refine (salt_ok (fun j => j = r ∨ j = g) r n (rx1 xs) _ L3 (Or.inl rfl) (fun k hk => by omega) hn h3).mono ?_; rintro e w4 ⟨⟨sa, sn, sc, rfl, R4, hs4⟩, L4, hk4⟩; have G4 := G3.keep hk4 hgr; have q4 : w4.cell? ⟨g, 1, none⟩ = some (.slice none 0 0) := G4.cell 1; have z4 := G4.fz 1)
  have kg4 : Keep (fun j => j = g) w4 (w4.setCell ⟨g, 1, none⟩ (.slice sa sn sc)) := (Keep.refl (fun j => j = g) w4).setCell (p := ⟨g, 1, none⟩) rfl _
  have L5 : Lft (fun j => j = r ∨ j = g) _ r n (rx2 xs) := L4.other kg4 (Or.inr rfl) (fun e => hgr e.symm)
  have G5 := G4.set1 (.slice sa sn sc)
  have k5 : Keep (fun j => j = r) w _ := (k3.trans hk4).andThen kg4 (fun j hj e => by omega)
  have hsl : ∀ ad, sa = some ad → ad.block ≠ r ∧ ad.block ≠ g ∧ w.heap.size ≤ ad.block := fun ad had => by have := hs4 ad had; have := hb1.size; exact ⟨by omega, by omega, by omega⟩
  have R5 := R4.keep kg4 (fun ad had e => (hsl ad had).2.1 e)
  generalize w4.setCell ⟨g, 1, none⟩ (.slice sa sn sc) = w5 at L5 G5 k5 R5 ⊢
  clear kg4 q4 z4 L4 L3 G4 R4 hs4
  obtain ⟨b5, m5, d5, A5, hm5, hn5⟩ := L5
  go_upto_region 5 with (go_at_call 59; refine (number_ok r b5 m5 d5 (rx2 xs) 4096 _ A5 (by omega) (by omega) h4).mono ?_; rintro e w6 ⟨rfl, ⟨b6, m6, d6, A6, hm6, hnw6⟩, hk6⟩; have G6 := G5.keep hk6 hgr; have q6 : w6.cell? ⟨g, 2, none⟩ = some (.int .i64 0) := G6.cell 2; have z6 := G6.fz 2)
  have hg5 := G5.lt
  have hr5 := A5.lt
  have L6 : Lft (fun j => j = r ∨ j = g) w6 r n (rx3 xs) := ⟨b6, m6, d6, A6, by omega, fun ad had e => by have := hnw6 ad had; omega⟩
  have R6 := R5.keep hk6 (fun ad had e => (hsl ad had).1 e)
  generalize hZ : (((scan (rx2 xs) 0 0).1 : Nat) : Int) = Z at *
  have kg6 : Keep (fun j => j = g) w6 (w6.setCell ⟨g, 2, none⟩ (.int .i64 Z)) := (Keep.refl (fun j => j = g) w6).setCell (p := ⟨g, 2, none⟩) rfl _
  have L7 := L6.other kg6 (Or.inr rfl) (fun e => hgr e.symm)
  have G7 := G6.set2 (.int .i64 Z)
  have k7 : Keep (fun j => j = r) w _ := (k5.trans hk6).andThen kg6 (fun j hj e => by omega)
  have R7 := R6.keep kg6 (fun ad had e => (hsl ad had).2.1 e)
  generalize w6.setCell ⟨g, 2, none⟩ (.int .i64 Z) = w7 at L7 G7 k7 R7 ⊢
  clear kg6 q6 z6 A6 L6 R6 G6
  have l3 : ((rx3 xs).take 32).length = 32 := by rw [List.length_take]; omega
  go_upto_region 6 with (first
    | (go_at_call 60; refine (key_ok (fun j => j = r ∨ j = g) r n (rx3 xs) _ L7 (Or.inl rfl) hn h5).mono ?_; rintro e w8 ⟨rfl, L8, hk8⟩; have G8 := G7.keep hk8 hgr)
    | (refine wp_store_K rfl (.tmp 21) (.tmp 20) rfl g rfl _ rfl l3 _ _ _ _ _ G8 (by simp [Z32]) (by simp [Z32]) ?_; intro w9 G9 kg9))
  have L9 : Lft (fun j => j = r ∨ j = g) w9 r n (rx4 xs) := L8.other kg9 (Or.inr rfl) (fun e => hgr e.symm)
  have k9 : Keep (fun j => j = r) w w9 := (k7.trans hk8).andThen kg9 (fun j hj e => by omega)
  have R9 := (R7.keep hk8 (fun ad had e => (hsl ad had).1 e)).keep kg9 (fun ad had e => (hsl ad had).2.1 e)
  clear L8 L7 R7 G8 G7 kg9
  have l4 : ((rx4 xs).take 32).length = 32 := by rw [List.length_take]; omega
  go_upto_region 7 with (first
    | (go_at_call 60; refine (key_ok (fun j => j = r ∨ j = g) r n (rx4 xs) _ L9 (Or.inl rfl) hn h6).mono ?_; rintro e w10 ⟨rfl, L10, hk10⟩; have G10 := G9.keep hk10 hgr)
    | (refine wp_store_V rfl (.tmp 24) (.tmp 23) rfl g rfl _ rfl l4 _ _ _ _ _ G10 l3 (by simp [Z32]) ?_; intro w11 G11 kg11))
  have L11 : Lft (fun j => j = r ∨ j = g) w11 r n (rx5 xs) := L10.other kg11 (Or.inr rfl) (fun e => hgr e.symm)
  have k11 : Keep (fun j => j = r) w w11 := (k9.trans hk10).andThen kg11 (fun j hj e => by omega)
  have R11 := (R9.keep hk10 (fun ad had e => (hsl ad had).1 e)).keep kg11 (fun ad had e => (hsl ad had).2.1 e)
  obtain ⟨b12, m12, d12, A12, hm12, hn12⟩ := L11
  have q12 := A12.cell
  have l12 := A12.rd.len
  clear L10 L9 R9 G10 G9 kg11
  have hz7 : (((m12 : Nat) : Int) == 0) = false := by
    have : ¬ ((m12 : Nat) : Int) = 0 := by omega
    simpa using this
  go_wp2_with (go_at_call 56; refine (ask_no _).mono ?_; rintro e w11 ⟨rfl, rfl⟩)
  exact ⟨rfl, rfl, k11⟩

set_option maxRecDepth 100000 in
set_option maxHeartbeats 1600000 in
theorem record_ok (r : Nat) (a : Option Addr) (n c : Nat) (xs : List Int) (w : World) (hA : RAt w r a n c xs) (hn : n ≤ 1000000) (hT : Lib.Utf8Tabs 0 1 w) (hV : Tabs w) (h1 : xs.length ≤ 164) (h2 : usrOk xs = true) (h3 : saltOk (rx1 xs) = true) (h4 : numOk (rx2 xs) 4096 = true) (h5 : 32 ≤ (rx3 xs).length) (h6 : 32 ≤ (rx4 xs).length) (h7 : (rx5 xs).length = 0) :
    Calls Tryd.prog 37 #[.pointer (some ⟨r, 0, none⟩)] w fun e w' => (∃ sa sn sc, e = .returned (.agg (recL (.string (usrT xs)) (.slice sa sn sc) (.int .i64 ((scan (rx2 xs) 0 0).1 : Nat)) ((rx3 xs).take 32) ((rx4 xs).take 32)).toArray) ∧ Rd w' sa sn sc (saltT (rx1 xs)) ∧ ∀ ad, sa = some ad → w.heap.size ≤ ad.block) ∧ Keep (fun j => j = r) w w' := by
  have hrw := hA.lt
  go_enter Tryd.func37, Tryd.ntmps37
  go_upto_region 1 with (refine wp_alloc_row rfl 28 rfl rec0 67 zero_rec ?_; intro g w1 G1 hg hb1)
  have A1 := hA.below hb1
  have q1 := A1.cell
  have G1 : RcAt w1 g (recL (.string ⟨#[]⟩) (.slice none 0 0) (.int .i64 0) Z32 Z32) := G1
  have hgl := G1.lt
  have hgr : g ≠ r := by omega
  have k1 : Keep (fun j => j = r) w w1 := Keep.ofBelow hb1
  have hz1 : (n : Int) ≤ 164 := by have := hA.rd.len; omega
  go_upto_region 2 with (go_at_call 56; refine (ask_yes _).mono ?_; rintro e w1 ⟨rfl, rfl⟩)
  go_upto_region 3 with (go_at_call 57; refine (user_ok r a n c xs _ A1 hn (Nm.tabs_below hT hb1) (hV.carry hb1) h2).mono ?_; rintro e w2 ⟨rfl, ⟨b2, m2, d2, A2, hm2, hnw2⟩, hk2⟩; have G2 := G1.keep hk2 hgr; have q2 : w2.cell? ⟨g, 0, none⟩ = some (.string ⟨#[]⟩) := G2.cell 0; have z2 := G2.fz 0)
  have L2 : Lft (fun j => j = r ∨ j = g) w2 r n (rx1 xs) := ⟨b2, m2, d2, A2, hm2, fun ad had e => by have := hnw2 ad had; omega⟩
  have kg2 : Keep (fun j => j = g) w2 (w2.setCell ⟨g, 0, none⟩ (.string (usrT xs))) := (Keep.refl (fun j => j = g) w2).setCell (p := ⟨g, 0, none⟩) rfl _
  have L3 := L2.other kg2 (Or.inr rfl) (fun e => hgr e.symm)
  have G3 := G2.set0 (.string (usrT xs))
  have k3 : Keep (fun j => j = r) w _ := (k1.trans hk2).andThen kg2 (fun j hj e => by omega)
  have s3 : w1.heap.size ≤ (w2.setCell ⟨g, 0, none⟩ (.string (usrT xs))).heap.size := Nat.le_trans hk2.size kg2.size
  generalize hU : usrT xs = U at *
  generalize w2.setCell ⟨g, 0, none⟩ (.string U) = w3 at L3 G3 k3 s3 ⊢
  clear kg2 q2 z2 A2 L2
  go_upto_region 4 with (go_at_call 58; refine (salt_ok (fun j => j = r ∨ j = g) r n (rx1 xs) _ L3 (Or.inl rfl) (fun k hk => by omega) hn h3).mono ?_; rintro e w4 ⟨⟨sa, sn, sc, rfl, R4, hs4⟩, L4, hk4⟩; have G4 := G3.keep hk4 hgr; have q4 : w4.cell? ⟨g, 1, none⟩ = some (.slice none 0 0) := G4.cell 1; have z4 := G4.fz 1)
  have kg4 : Keep (fun j => j = g) w4 (w4.setCell ⟨g, 1, none⟩ (.slice sa sn sc)) := (Keep.refl (fun j => j = g) w4).setCell (p := ⟨g, 1, none⟩) rfl _
  have L5 : Lft (fun j => j = r ∨ j = g) _ r n (rx2 xs) := L4.other kg4 (Or.inr rfl) (fun e => hgr e.symm)
  have G5 := G4.set1 (.slice sa sn sc)
  have k5 : Keep (fun j => j = r) w _ := (k3.trans hk4).andThen kg4 (fun j hj e => by omega)
  have hsl : ∀ ad, sa = some ad → ad.block ≠ r ∧ ad.block ≠ g ∧ w.heap.size ≤ ad.block := fun ad had => by have := hs4 ad had; have := hb1.size; exact ⟨by omega, by omega, by omega⟩
  have R5 := R4.keep kg4 (fun ad had e => (hsl ad had).2.1 e)
  generalize w4.setCell ⟨g, 1, none⟩ (.slice sa sn sc) = w5 at L5 G5 k5 R5 ⊢
  clear kg4 q4 z4 L4 L3 G4 R4 hs4
  obtain ⟨b5, m5, d5, A5, hm5, hn5⟩ := L5
  go_upto_region 5 with (go_at_call 59; refine (number_ok r b5 m5 d5 (rx2 xs) 4096 _ A5 (by omega) (by omega) h4).mono ?_; rintro e w6 ⟨rfl, ⟨b6, m6, d6, A6, hm6, hnw6⟩, hk6⟩; have G6 := G5.keep hk6 hgr; have q6 : w6.cell? ⟨g, 2, none⟩ = some (.int .i64 0) := G6.cell 2; have z6 := G6.fz 2)
  have hg5 := G5.lt
  have hr5 := A5.lt
  have L6 : Lft (fun j => j = r ∨ j = g) w6 r n (rx3 xs) := ⟨b6, m6, d6, A6, by omega, fun ad had e => by have := hnw6 ad had; omega⟩
  have R6 := R5.keep hk6 (fun ad had e => (hsl ad had).1 e)
  generalize hZ : (((scan (rx2 xs) 0 0).1 : Nat) : Int) = Z at *
  have kg6 : Keep (fun j => j = g) w6 (w6.setCell ⟨g, 2, none⟩ (.int .i64 Z)) := (Keep.refl (fun j => j = g) w6).setCell (p := ⟨g, 2, none⟩) rfl _
  have L7 := L6.other kg6 (Or.inr rfl) (fun e => hgr e.symm)
  have G7 := G6.set2 (.int .i64 Z)
  have k7 : Keep (fun j => j = r) w _ := (k5.trans hk6).andThen kg6 (fun j hj e => by omega)
  have R7 := R6.keep kg6 (fun ad had e => (hsl ad had).2.1 e)
  generalize w6.setCell ⟨g, 2, none⟩ (.int .i64 Z) = w7 at L7 G7 k7 R7 ⊢
  clear kg6 q6 z6 A6 L6 R6 G6
  have l3 : ((rx3 xs).take 32).length = 32 := by rw [List.length_take]; omega
  go_upto_region 6 with (first
    | (go_at_call 60; refine (key_ok (fun j => j = r ∨ j = g) r n (rx3 xs) _ L7 (Or.inl rfl) hn h5).mono ?_; rintro e w8 ⟨rfl, L8, hk8⟩; have G8 := G7.keep hk8 hgr)
    | (refine wp_store_K rfl (.tmp 21) (.tmp 20) rfl g rfl _ rfl l3 _ _ _ _ _ G8 (by simp [Z32]) (by simp [Z32]) ?_; intro w9 G9 kg9))
  have L9 : Lft (fun j => j = r ∨ j = g) w9 r n (rx4 xs) := L8.other kg9 (Or.inr rfl) (fun e => hgr e.symm)
  have k9 : Keep (fun j => j = r) w w9 := (k7.trans hk8).andThen kg9 (fun j hj e => by omega)
  have R9 := (R7.keep hk8 (fun ad had e => (hsl ad had).1 e)).keep kg9 (fun ad had e => (hsl ad had).2.1 e)
  clear L8 L7 R7 G8 G7 kg9
  have l4 : ((rx4 xs).take 32).length = 32 := by rw [List.length_take]; omega
  go_upto_region 7 with (first
    | (go_at_call 60; refine (key_ok (fun j => j = r ∨ j = g) r n (rx4 xs) _ L9 (Or.inl rfl) hn h6).mono ?_; rintro e w10 ⟨rfl, L10, hk10⟩; have G10 := G9.keep hk10 hgr)
    | (refine wp_store_V rfl (.tmp 24) (.tmp 23) rfl g rfl _ rfl l4 _ _ _ _ _ G10 l3 (by simp [Z32]) ?_; intro w11 G11 kg11))
  have L11 : Lft (fun j => j = r ∨ j = g) w11 r n (rx5 xs) := L10.other kg11 (Or.inr rfl) (fun e => hgr e.symm)
  have k11 : Keep (fun j => j = r) w w11 := (k9.trans hk10).andThen kg11 (fun j hj e => by omega)
  have R11 := (R9.keep hk10 (fun ad had e => (hsl ad had).1 e)).keep kg11 (fun ad had e => (hsl ad had).2.1 e)
  obtain ⟨b12, m12, d12, A12, hm12, hn12⟩ := L11
  have q12 := A12.cell
  have l12 := A12.rd.len
  clear L10 L9 R9 G10 G9 kg11
  obtain rfl : m12 = 0 := by omega
  go_upto_region 8 with (go_at_call 56; refine (ask_yes _).mono ?_; rintro e w11 ⟨rfl, rfl⟩)
  have h67 := rec_len (.string U) (.slice sa sn sc) (.int .i64 Z) l3 l4
  go_wp2_with (first
    | (refine wp_load_rec rfl (.tmp 2) rfl g rfl _ G11 h67 ?_)
    | (refine wp_store_rec rfl (.tmp 2) (.tmp 32) rfl g rfl _ rfl _ G11 h67 h67 (rec_one _ _ _ _ _ _ _) ?_; intro w13 G13 kg13))
  have k13 : Keep (fun j => j = r) w w13 := k11.andThen kg13 (fun j hj e => by omega)
  have R13 := R11.keep kg13 (fun ad had e => (hsl ad had).2.1 e)
  exact bodyPost_ret (v := .agg (recL (.string U) (.slice sa sn sc) (.int .i64 Z) ((rx3 xs).take 32) ((rx4 xs).take 32)).toArray) (results_cell_row rfl _ _ g 28 _ (0, 0) _ rfl G13 Tryd.underlying28 rfl (by rw [show (Tryd.prog.info? 28).map (·.size) = some 67 from by kernel_rfl]; simp [h67])) rfl ⟨⟨sa, sn, sc, by rw [hU, hZ], R13, fun ad had => (hsl ad had).2.2⟩, k13⟩

end Go.Proofs.YtiidjdedeenijaaDoor

/- creds.Read: a record, or the one error. -/
namespace Go.Proofs.YtiidjdedeenijaaDoor
open Go.RowKit

theorem record_no (r : Nat) (a : Option Addr) (n c : Nat) (xs : List Int) (w : World) (hA : RAt w r a n c xs) (hn : n ≤ 1000000) (hT : Lib.Utf8Tabs 0 1 w) (hV : Tabs w) (h : recOk xs = false) :
    Calls Tryd.prog 37 #[.pointer (some ⟨r, 0, none⟩)] w fun e w' => e = .panicked gaveC ∧ Keep (fun j => j = r) w w' := by
  by_cases h1 : xs.length ≤ 164
  · cases h2 : usrOk xs with
    | false => exact record_no2 r a n c xs w hA hn hT hV h1 h2
    | true =>
      cases h3 : saltOk (rx1 xs) with
      | false => exact record_no3 r a n c xs w hA hn hT hV h1 h2 h3
      | true =>
        cases h4 : numOk (rx2 xs) 4096 with
        | false => exact record_no4 r a n c xs w hA hn hT hV h1 h2 h3 h4
        | true =>
          by_cases h5 : 32 ≤ (rx3 xs).length
          · by_cases h6 : 32 ≤ (rx4 xs).length
            · by_cases h7 : (rx5 xs).length = 0
              · unfold recOk at h
                rw [decide_eq_true h1, h2, h3, h4, decide_eq_true h5, decide_eq_true h6, decide_eq_true h7] at h
                cases h
              · exact record_no7 r a n c xs w hA hn hT hV h1 h2 h3 h4 h5 h6 h7
            · exact record_no6 r a n c xs w hA hn hT hV h1 h2 h3 h4 h5 h6
          · exact record_no5 r a n c xs w hA hn hT hV h1 h2 h3 h4 h5
  · exact record_no1 r a n c xs w hA hn hT hV h1

theorem ta_nil (w : World) : (Instr.typeAssert .nilIface 20 69 true).run Tryd.prog w = .ok (.tuple #[.agg #[], .bool false]) w := by kernel_rfl
theorem ta_gave (w : World) : (Instr.typeAssert (.iface 69 (.agg #[])) 20 69 true).run Tryd.prog w = .ok (.tuple #[.agg #[], .bool true]) w := by kernel_rfl

set_option maxRecDepth 100000 in
set_option maxHeartbeats 1600000 in
theorem catchC_idle (p q : Addr) (w : World) :
    CallsD Tryd.prog 36 #[.pointer (some p), .pointer (some q)] .returning w fun e u' w' => e = .returned (.tuple #[]) ∧ u' = .returning ∧ Below w.heap.size w w' := by
  refine callsD_of_wpS Tryd.func36 rfl fun c₀ cs hu => ?_
  apply wpS_seq
  apply wpS_region
  simp [wpOpsS, go_sem, recoverD, hu, Tryd.ntmps36, Exit.thenS]
  refine wpS_of_wp ?_
  rw [show #[Value.pointer (some p), Value.pointer (some q)] ++ ((Array.replicate 14 undef).setIfInBounds 3 Value.nilIface).setIfInBounds 0 Value.nilIface = #[Value.pointer (some p), Value.pointer (some q), Value.nilIface, undef, undef, Value.nilIface, undef, undef, undef, undef, undef, undef, undef, undef, undef, undef] from rfl]
  have hta := ta_nil
  go_wp2
  have hb : Below w.heap.size w (w.alloc (.cells #[] 69)) := (Below.refl _ _).alloc (Nat.le_refl _) _
  cases c₀
  simp_all [bodyPostS, results, Tryd.results36]

theorem keep_thawC {S : Nat → Prop} {w w' : World} (h : Keep S w w') {p : Addr} (hl : p.block < w.heap.size) (hs : ¬ S p.block) (hf : w.frozen? p = false) : w'.frozen? p = false := by
  have e := h.block p.block hl hs
  unfold World.frozen? at hf ⊢
  rw [e]
  exact hf

set_option maxRecDepth 100000 in
set_option maxHeartbeats 1600000 in
theorem catchC_panicking (b q : Nat) (cs0 : List Value) (x : Int) (w : World) (hG : RcAt w b cs0) (hl : cs0.length = 67) (hc : w.heap[q]? = some (.cells #[.int .i64 x] 29 (0, 0))) (hbq : b ≠ q) :
    CallsD Tryd.prog 36 #[.pointer (some ⟨b, 0, none⟩), .pointer (some ⟨q, 0, none⟩)] (.panicking gaveC) w fun e u' w' =>
      e = .returned (.tuple #[]) ∧ u' = .panicking [{ v := .iface 69 (.agg #[]), recovered := true }] ∧ RcAt w' b rec0 ∧ w'.heap[q]? = some (.cells #[.int .i64 2] 29 (0, 0)) ∧ Keep (fun k => k = b ∨ k = q) w w' := by
  unfold gaveC
  have hql : q < w.heap.size := (Array.getElem?_eq_some_iff.1 hc).1
  refine callsD_of_wpS Tryd.func36 rfl fun c₀ cs hu => ?_
  apply wpS_seq
  apply wpS_region
  simp [wpOpsS, go_sem, recoverD, hu, Tryd.ntmps36, Exit.thenS]
  refine wpS_of_wp ?_
  rw [show #[Value.pointer (some ⟨b, 0, none⟩), Value.pointer (some ⟨q, 0, none⟩)] ++ ((Array.replicate 14 undef).setIfInBounds 3 (Value.iface 69 (.agg #[]))).setIfInBounds 0 (Value.iface 69 (.agg #[])) = #[Value.pointer (some ⟨b, 0, none⟩), Value.pointer (some ⟨q, 0, none⟩), Value.iface 69 (.agg #[]), undef, undef, Value.iface 69 (.agg #[]), undef, undef, undef, undef, undef, undef, undef, undef, undef, undef] from rfl]
  have hta := ta_gave
  have hb1 : Below w.heap.size w (w.alloc (.cells #[] 69)) := (Below.refl _ _).alloc (Nat.le_refl _) _
  have G1 := hG.below hb1
  have c1 := (hb1.block q hql).trans hc
  go_wp2_with (first
    | (refine wp_build_rec0 rfl rfl ?_)
    | (refine wp_store_rec rfl (.tmp 0) (.tmp 12) rfl b rfl _ rfl _ G1 hl (by simp [rec0, recL, Z32, ic_len]) (rec_one _ _ _ _ _ _ _) ?_; intro w2 G2 k2; have c2 := (k2.block q (Nat.lt_of_lt_of_le hql hb1.size) (fun e => hbq e.symm)).trans c1; have q2 := cell_of_row w2 q 0 _ _ (0, 0) c2; have z2 := frozen_of_row w2 q 0 _ _ c2))
  have k3 : Keep (fun k => k = q) w2 (w2.setCell ⟨q, 0, none⟩ (.int .i64 2)) := (Keep.refl (fun k => k = q) w2).setCell (p := ⟨q, 0, none⟩) rfl _
  have c3 : (w2.setCell ⟨q, 0, none⟩ (.int .i64 2)).heap[q]? = some (.cells #[.int .i64 2] 29 (0, 0)) := heap_setCell_same w2 q 0 _ _ _ c2
  have G3 := G2.keep k3 hbq
  have kk : Keep (fun k => k = b ∨ k = q) w (w2.setCell ⟨q, 0, none⟩ (.int .i64 2)) := ((Keep.ofBelow hb1).trans (k2.mono (fun _ e => Or.inl e))).trans (k3.mono (fun _ e => Or.inr e))
  generalize w2.setCell ⟨q, 0, none⟩ (.int .i64 2) = w3 at c3 G3 kk ⊢
  simp [bodyPostS, results, Tryd.results36]
  exact ⟨G3, c3, kk⟩

theorem run_load_err (w : World) (q : Nat) (x : Int) (h : w.heap[q]? = some (.cells #[.int .i64 x] 29 (0, 0))) : (loadVar 29 ⟨q, 0, none⟩).run Tryd.prog w = .ok (.int .i64 x) w := by
  have hq : w.cell? ⟨q, 0, none⟩ = some (.int .i64 x) := cell_of_row w q 0 _ _ (0, 0) h
  simp [go_sem, hq]
theorem results_re {fn : Func} {p t : Tmp} (h : fn.results = #[.cell p 28, .cell t 29]) (tmps : Array Value) (w : World) (g q : Nat) (cs : List Value) (x : Int)
    (hp : tmps.getD p undef = .pointer (some ⟨g, 0, none⟩)) (ht : tmps.getD t undef = .pointer (some ⟨q, 0, none⟩)) (hg : RcAt w g cs) (hl : cs.length = 67) (hq : w.heap[q]? = some (.cells #[.int .i64 x] 29 (0, 0))) :
    (results fn tmps).run Tryd.prog w = .ok (.tuple #[.agg cs.toArray, .int .i64 x]) w := by
  have hr := run_loadVar_row w g 28 28 _ (0, 0) _ hg Tryd.underlying28 rfl (by rw [show (Tryd.prog.info? 28).map (·.size) = some 67 from by kernel_rfl]; simp [hl])
  have hr2 := run_load_err w q x hq
  have hp' : tmps[p]?.getD undef = .pointer (some ⟨g, 0, none⟩) := by simpa using hp
  have ht' : tmps[t]?.getD undef = .pointer (some ⟨q, 0, none⟩) := by simpa using ht
  simp [results, h, hp', ht', asAddr, hr, hr2]
theorem alloc_atC {W : World} {o : Obj} {k : Nat} (h : W.heap.size = k) : (W.alloc o).heap[k]? = some o := by
  subst h
  show (W.heap.push o)[W.heap.size]? = _
  simp

set_option maxRecDepth 100000 in
set_option maxHeartbeats 1600000 in
theorem read_ok (a : Option Addr) (n c : Nat) (xs : List Int) (w : World) (hR : Rd w a n c xs) (hn : n ≤ 1000000) (hT : Lib.Utf8Tabs 0 1 w) (hV : Tabs w) (h : recOk xs = true) :
    Calls Tryd.prog 16 #[.slice a n c] w fun e w' => (∃ sa sn sc, e = .returned (.tuple #[.agg (recL (.string (usrT xs)) (.slice sa sn sc) (.int .i64 ((scan (rx2 xs) 0 0).1 : Nat)) ((rx3 xs).take 32) ((rx4 xs).take 32)).toArray, .int .i64 0]) ∧ Rd w' sa sn sc (saltT (rx1 xs)) ∧ ∀ ad, sa = some ad → w.heap.size ≤ ad.block) ∧ Below w.heap.size w w' := by
  have hmf : ∀ (fn : Fn) (first cap : Array Value) (w : World), (Instr.makeFunc fn first cap).run Tryd.prog w = .ok (.func fn first cap) w := fun _ _ _ _ => rfl
  go_enter_defers Tryd.func16, Tryd.ntmps16
  go_upto_region 3 with (refine wp_alloc_row rfl 28 rfl rec0 67 zero_rec ?_; intro g w1 G1 hg hb1)
  obtain ⟨q, hq⟩ : ∃ q, w1.heap.size = q := ⟨_, rfl⟩
  have hb2 : Below w1.heap.size w1 ((w1.alloc (.cells #[.int .i64 0] 29)).alloc (.cells #[.slice a n c] 72)) := ((Below.refl _ _).alloc (Nat.le_refl _) _).alloc (by simp) _
  have hb3 := hb1.trans (hb2.mono hb1.size)
  have G1 : RcAt w1 g rec0 := G1
  have hgl := G1.lt
  have G3 := G1.below hb2
  have c3 : ((w1.alloc (.cells #[.int .i64 0] 29)).alloc (.cells #[.slice a n c] 72)).heap[q]? = some (.cells #[.int .i64 0] 29 (0, 0)) := by
    subst hq
    show ((w1.heap.push _).push _)[w1.heap.size]? = _
    rw [Array.getElem?_push_lt (by simp)]
    simp
  have A3 : RAt ((w1.alloc (.cells #[.int .i64 0] 29)).alloc (.cells #[.slice a n c] 72)) (q + 1) a n c xs := ⟨alloc_atC (by simp [hq]), hR.carry (Nat.le_refl _) hb3⟩
  have T3 := Nm.tabs_below hT hb3
  have V3 := hV.carry hb3
  rw [hq]
  generalize (w1.alloc (.cells #[.int .i64 0] 29)).alloc (.cells #[.slice a n c] 72) = W at hb2 hb3 G3 c3 A3 T3 V3 ⊢
  have hwg : w.heap.size ≤ q := by have := hb1.size; omega
  have hW := A3.lt
  unfold recOk at h
  simp only [Bool.and_eq_true] at h
  obtain ⟨h1, h2, h3, h4, h5, h6, h7⟩ := h
  have h5 := of_decide_eq_true h5
  have h6 := of_decide_eq_true h6
  have cS := record_ok (q + 1) a n c xs W A3 hn T3 V3 (of_decide_eq_true h1) h2 h3 h4 h5 h6 (of_decide_eq_true h7)
  have l3 : ((rx3 xs).take 32).length = 32 := by rw [List.length_take]; omega
  have l4 : ((rx4 xs).take 32).length = 32 := by rw [List.length_take]; omega
  go_wp2_with (first
    | (go_at_call 37; refine cS.mono ?_; rintro e w4 ⟨⟨sa, sn, sc, rfl, R4, hs4⟩, k4⟩; have G4 := G3.keep k4 (fun e => by omega); have c4 := (k4.block q (by omega) (fun e => by omega)).trans c3)
    | (refine wp_store_rec rfl (.tmp 2) (.tmp 8) rfl g rfl _ rfl _ G4 rec0_len (rec_len _ _ _ l3 l4) (rec_one _ _ _ _ _ _ _) ?_; intro w5 G5 k5; have c5 := (k5.block q (by have := k4.size; omega) (fun e => by omega)).trans c4; have q5 := cell_of_row w5 q 0 _ _ (0, 0) c5; have z5 := frozen_of_row w5 q 0 _ _ c5))
  have k6 : Keep (fun k => k = q) w5 (w5.setCell ⟨q, 0, none⟩ (.int .i64 0)) := (Keep.refl (fun k => k = q) w5).setCell (p := ⟨q, 0, none⟩) rfl _
  have c6 : (w5.setCell ⟨q, 0, none⟩ (.int .i64 0)).heap[q]? = some (.cells #[.int .i64 0] 29 (0, 0)) := heap_setCell_same w5 q 0 _ _ _ c5
  have G6 := G5.keep k6 (fun e => by omega)
  have R6 := (R4.keep k5 (fun ad had e => by have := hs4 ad had; omega)).keep k6 (fun ad had e => by have := hs4 ad had; omega)
  have hb6 : Below w.heap.size w (w5.setCell ⟨q, 0, none⟩ (.int .i64 0)) := hb3.trans ((((k4.mono (fun _ e => (show w.heap.size ≤ _ by omega))).trans (k5.mono (fun _ e => (show w.heap.size ≤ _ by omega)))).trans (k6.mono (fun _ e => (show w.heap.size ≤ _ by omega)))).below (by omega) (fun _ h => h))
  generalize w5.setCell ⟨q, 0, none⟩ (.int .i64 0) = w6 at c6 G6 R6 hb6 ⊢
  refine leaves_cons (f := 36) (args := #[.pointer (some ⟨g, 0, none⟩), .pointer (some ⟨q, 0, none⟩)]) (by simp) (by simp [go_sem]) ?_
  refine (catchC_idle _ _ _).mono ?_
  rintro e u' w7 ⟨rfl, rfl, hb7⟩
  have G7 := G6.below hb7
  have c7 := (hb7.block q (Array.getElem?_eq_some_iff.1 c6).1).trans c6
  have R7 := R6.carry (Nat.le_refl _) hb7
  have hb8 := hb6.trans (hb7.mono hb6.size)
  simp only [Leaves, settle]
  exact ⟨_, results_re rfl _ _ g q _ 0 rfl rfl G7 (rec_len _ _ _ l3 l4) c7, ⟨sa, sn, sc, rfl, R7, fun ad had => by have := hs4 ad had; omega⟩, hb8⟩

set_option maxRecDepth 100000 in
set_option maxHeartbeats 1600000 in
theorem read_no (a : Option Addr) (n c : Nat) (xs : List Int) (w : World) (hR : Rd w a n c xs) (hn : n ≤ 1000000) (hT : Lib.Utf8Tabs 0 1 w) (hV : Tabs w) (h : recOk xs = false) :
    Calls Tryd.prog 16 #[.slice a n c] w fun e w' => e = .returned (.tuple #[.agg rec0.toArray, .int .i64 2]) ∧ Below w.heap.size w w' := by
  have hmf : ∀ (fn : Fn) (first cap : Array Value) (w : World), (Instr.makeFunc fn first cap).run Tryd.prog w = .ok (.func fn first cap) w := fun _ _ _ _ => rfl
  go_enter_defers Tryd.func16, Tryd.ntmps16
  go_upto_region 3 with (refine wp_alloc_row rfl 28 rfl rec0 67 zero_rec ?_; intro g w1 G1 hg hb1)
  obtain ⟨q, hq⟩ : ∃ q, w1.heap.size = q := ⟨_, rfl⟩
  have hb2 : Below w1.heap.size w1 ((w1.alloc (.cells #[.int .i64 0] 29)).alloc (.cells #[.slice a n c] 72)) := ((Below.refl _ _).alloc (Nat.le_refl _) _).alloc (by simp) _
  have hb3 := hb1.trans (hb2.mono hb1.size)
  have G1 : RcAt w1 g rec0 := G1
  have hgl := G1.lt
  have G3 := G1.below hb2
  have c3 : ((w1.alloc (.cells #[.int .i64 0] 29)).alloc (.cells #[.slice a n c] 72)).heap[q]? = some (.cells #[.int .i64 0] 29 (0, 0)) := by
    subst hq
    show ((w1.heap.push _).push _)[w1.heap.size]? = _
    rw [Array.getElem?_push_lt (by simp)]
    simp
  have A3 : RAt ((w1.alloc (.cells #[.int .i64 0] 29)).alloc (.cells #[.slice a n c] 72)) (q + 1) a n c xs := ⟨alloc_atC (by simp [hq]), hR.carry (Nat.le_refl _) hb3⟩
  have T3 := Nm.tabs_below hT hb3
  have V3 := hV.carry hb3
  rw [hq]
  generalize (w1.alloc (.cells #[.int .i64 0] 29)).alloc (.cells #[.slice a n c] 72) = W at hb2 hb3 G3 c3 A3 T3 V3 ⊢
  have hwg : w.heap.size ≤ q := by have := hb1.size; omega
  have hW := A3.lt
  have cS := record_no (q + 1) a n c xs W A3 hn T3 V3 h
  go_wp2_with (go_at_call 37; refine cS.mono ?_; rintro e w4 ⟨rfl, k4⟩)
  have G4 := G3.keep k4 (fun e => by omega)
  have c4 := (k4.block q (by omega) (fun e => by omega)).trans c3
  refine leaves_cons (f := 36) (args := #[.pointer (some ⟨g, 0, none⟩), .pointer (some ⟨q, 0, none⟩)]) (by simp) (by simp [go_sem]) ?_
  refine (catchC_panicking g q rec0 0 _ G4 rec0_len c4 (by omega)).mono ?_
  rintro e u' w5 ⟨rfl, rfl, G5, c5, k5⟩
  have hb5 : Below w.heap.size w w5 := hb3.trans (((k4.mono (fun _ e => (show w.heap.size ≤ _ by omega))).trans (k5.mono (fun _ e => (show w.heap.size ≤ _ by omega)))).below (by omega) (fun _ h => h))
  simp [Leaves, settle]
  exact ⟨_, results_re rfl _ _ g q _ 2 rfl rfl G5 rec0_len c5, rfl, hb5⟩

end Go.Proofs.YtiidjdedeenijaaDoor

/- The law's Twin of a record; few bytes. -/
namespace Go.Proofs.YtiidjdedeenijaaDoor
open Go.RowKit

def twU (u : ByteArray) : ByteArray := strOfNums ((nums u).take 100)

set_option maxRecDepth 100000 in
set_option maxHeartbeats 1600000 in
theorem few8_any (a : Option Addr) (n c : Nat) (xs : List Int) (w : World) (hR : Rd w a n c xs) :
    Calls Tryd.prog 17 #[.slice a n c] w fun e w' => ∃ a' n' c', e = .returned (.slice a' n' c') ∧ Rd w' a' n' c' (xs.take 200) ∧ Below w.heap.size w w' := by
  have hb := hR.bytes.take 200
  go_enter Tryd.func17, Tryd.ntmps17
  go_wp2_with (go_at_call 8; refine (twin_any a n c xs 200 w hR (by omega)).mono ?_; rintro e w1 ⟨v, rfl, ho1, hb1⟩)
  go_ret
  obtain ⟨b, d, rfl, hr⟩ := Rd.ofOwn ho1 hb
  exact ⟨b, _, d, rfl, hr, hb1⟩

set_option maxRecDepth 100000 in
set_option maxHeartbeats 1600000 in
theorem rtwin_any (u : ByteArray) (a : Option Addr) (n c : Nat) (ss : List Int) (z : Int) (K V : List Int) (w : World) (hu : u.size ≤ 9223372036854775807) (hR : Rd w a n c ss) (hK : K.length = 32) (hV : V.length = 32) :
    Calls Tryd.prog 12 #[.agg (recL (.string u) (.slice a n c) (.int .i64 z) K V).toArray] w fun e w' => (∃ a' n' c', e = .returned (.agg (recL (.string (twU u)) (.slice a' n' c') (.int .i64 z) K V).toArray) ∧ Rd w' a' n' c' (ss.take 40)) ∧ Below w.heap.size w w' := by
  have hb := hR.bytes.take 40
  go_enter Tryd.func12, Tryd.ntmps12
  go_upto_region 1 with (first
    | (refine wp_box_row rfl 28 (.tmp 0) rfl (recL (.string u) (.slice a n c) (.int .i64 z) K V) rfl ?_; intro g1 w1 G1 hg1 hb1)
    | (refine wp_alloc_row rfl 28 rfl rec0 67 zero_rec ?_; intro g2 w2 G2 hg2 hb2))
  have G1 : RcAt w1 g1 _ := G1
  have G2 : RcAt w2 g2 rec0 := G2
  have hg1l := G1.lt
  have G1 := G1.below hb2
  have b2 := hb1.trans (hb2.mono hb1.size)
  have q2 : w2.cell? ⟨g1, 0, none⟩ = some (.string u) := G1.cell 0
  have z2 := G1.fz 0
  go_upto_region 2 with (go_at_call 6; refine (text_any u 100 _ hu (by omega)).mono ?_; rintro e w2 ⟨rfl, rfl⟩)
  change Code.wp _ _ _ _ (World.setCell _ _ (.string (twU u)))
  have k3 : Keep (fun k => k = g1) w2 (w2.setCell ⟨g1, 0, none⟩ (.string (twU u))) := (Keep.refl (fun k => k = g1) w2).setCell (p := ⟨g1, 0, none⟩) rfl _
  have G3 := G1.set0 (.string (twU u))
  have H3 := G2.keep k3 (fun e => by omega)
  have b3 : Below w.heap.size w (w2.setCell ⟨g1, 0, none⟩ (.string (twU u))) := b2.trans ((k3.mono (fun _ e => (show w.heap.size ≤ _ by omega))).below b2.size (fun _ h => h))
  generalize w2.setCell ⟨g1, 0, none⟩ (.string (twU u)) = w3 at G3 H3 b3 ⊢
  have R3 := hR.carry (Nat.le_refl _) b3
  have q3 : w3.cell? ⟨g1, 1, none⟩ = some (.slice a n c) := G3.cell 1
  have h3l := G3.lt
  have h3g := H3.lt
  have cT : Calls Tryd.prog 8 #[.slice a n c, .int .i64 40] w3 fun e w' => ∃ b m d, e = .returned (.slice b m d) ∧ Rd w' b m d (ss.take 40) ∧ (∀ ad, b = some ad → w3.heap.size ≤ ad.block) ∧ Below w3.heap.size w3 w' := by
    refine (twin_any a n c ss 40 w3 R3 (by omega)).mono ?_
    rintro e w4 ⟨v, rfl, ho4, hb4⟩
    obtain ⟨a4, c4, rfl, R4⟩ := Rd.ofOwn ho4 hb
    exact ⟨a4, _, c4, rfl, R4, fun ad had => (ho4.lt ad.block (by rw [had]; rfl)).1, hb4⟩
  go_upto_region 3 with (go_at_call 8; refine cT.mono ?_; rintro e w4 ⟨a4, m4, c4, rfl, R4, hnw, hb4⟩; have G4 := G3.below hb4; have H4 := H3.below hb4; have q4 : w4.cell? ⟨g1, 1, none⟩ = some (.slice a n c) := G4.cell 1; have z4 := G4.fz 1)
  have k5 : Keep (fun k => k = g1) w4 (w4.setCell ⟨g1, 1, none⟩ (.slice a4 m4 c4)) := (Keep.refl (fun k => k = g1) w4).setCell (p := ⟨g1, 1, none⟩) rfl _
  have G5 := G4.set1 (.slice a4 m4 c4)
  have H5 := H4.keep k5 (fun e => by omega)
  have R5 := R4.keep k5 (fun ad had e => by have := hnw ad had; omega)
  have b4 := b3.trans (hb4.mono b3.size)
  have b5 : Below w.heap.size w (w4.setCell ⟨g1, 1, none⟩ (.slice a4 m4 c4)) := b4.trans ((k5.mono (fun _ e => (show w.heap.size ≤ _ by omega))).below b4.size (fun _ h => h))
  generalize w4.setCell ⟨g1, 1, none⟩ (.slice a4 m4 c4) = w5 at G5 H5 R5 b5 ⊢
  have h67 := rec_len (.string (twU u)) (.slice a4 m4 c4) (.int .i64 z) hK hV
  go_wp2_with (first
    | (refine wp_load_rec rfl (.tmp 1) rfl g1 rfl _ G5 h67 ?_)
    | (refine wp_store_rec rfl (.tmp 2) (.tmp 11) rfl g2 rfl _ rfl _ H5 rec0_len h67 (rec_one _ _ _ _ _ _ _) ?_; intro w6 G6 k6))
  have R6 := R5.keep k6 (fun ad had e => by have := hnw ad had; have := h3g; omega)
  have b6 := b5.trans ((k6.mono (fun _ e => (show w.heap.size ≤ _ by omega))).below b5.size (fun _ h => h))
  exact bodyPost_ret (v := .agg (recL (.string (twU u)) (.slice a4 m4 c4) (.int .i64 z) K V).toArray) (results_cell_row rfl _ _ g2 28 _ (0, 0) _ rfl G6 Tryd.underlying28 rfl (by rw [show (Tryd.prog.info? 28).map (·.size) = some 67 from by kernel_rfl]; simp [h67])) rfl ⟨⟨a4, m4, c4, rfl, R6⟩, b6⟩

end Go.Proofs.YtiidjdedeenijaaDoor
