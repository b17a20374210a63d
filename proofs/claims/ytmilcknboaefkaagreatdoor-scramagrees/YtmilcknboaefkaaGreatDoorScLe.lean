/- ScramKeys: the law's walk. -/
import Derived.Test.YtmilcknboaefkaaGreatDoorScD
import Derived.Test.YtmilcknboaefkaaGreatDoorRows
import Derived.Shelf.Unicode.ValidAny
import Derived.ProofKit
import Derived.OpenShut
import Derived.ShutString
import Derived.ChangeOld
import Derived.Deep.DeepHandedRow
import Derived.Lib.LaidTab
import Derived.Lib.SmallJoins
import Derived.Shelf.Vars
import Derived.Test.YtmilcknboaefkaaGreatDoorScG
namespace Go.Proofs.YtmilcknboaefkaaGreatDoor
open Go.RowKit Go.Shelf

theorem wake1 : firstE [110, 44, 44, 110, 61, 97, 61, 50, 67, 98, 61, 51, 68, 44, 114, 61, 98] = (⟨[110, 44, 44], [97, 44, 98, 61], [98], [110, 61, 97, 61, 50, 67, 98, 61, 51, 68, 44, 114, 61, 98]⟩, 0) := by kernel_rfl
theorem wake2 : firstE [110, 44, 44, 110, 61, 97] = (noFP, 2) := by kernel_rfl

set_option maxHeartbeats 1000000 in
theorem wakes_any (w : World) (hM : Mx w) (hT : Lib.Utf8Tabs 1 2 w) : Calls Tryz.prog 14 #[] w fun e w' => e = .returned (.bool true) ∧ Below w.heap.size w w' := by
  have hg1 := World.block_lt_of_cell? w _ (hT.1 0 (by omega))
  have hg2 := World.block_lt_of_cell? w _ (hT.2 0 (by omega)).1
  have c1 := first_any [110, 44, 44, 110, 61, 97, 61, 50, 67, 98, 61, 51, 68, 44, 114, 61, 98] w hM hT hg1 hg2
  rw [wake1] at c1
  unfold fcells at c1
  have c2 := fun (u : World) (hb : Below w.heap.size w u) => first_any [110, 44, 44, 110, 61, 97] u (hM.below hb) (tabs_below hT hb) (Nat.lt_of_lt_of_le hg1 hb.size) (Nat.lt_of_lt_of_le hg2 hb.size)
  rw [wake2] at c2
  unfold fcells noFP at c2
  dsimp only at c1 c2
  have HW : Hid (∀ u, Below w.heap.size w u → FAt (u.alloc (.cells #[.string ⟨#[110, 44, 44]⟩, .string ⟨#[97, 44, 98, 61]⟩, .string ⟨#[98]⟩, .string ⟨#[110, 61, 97, 61, 50, 67, 98, 61, 51, 68, 44, 114, 61, 98]⟩] 35)) u.heap.size (.string ⟨#[110, 44, 44]⟩) (.string ⟨#[97, 44, 98, 61]⟩) (.string ⟨#[98]⟩) (.string ⟨#[110, 61, 97, 61, 50, 67, 98, 61, 51, 68, 44, 114, 61, 98]⟩)) := fun u _ => heap_alloc_new u _
  clear hM hT hg1 hg2
  have tk1 : True := trivial
  go_enter Tryz.func14, Tryz.ntmps14
  go_wp2_with (first
    | (clear tk1; go_at_call 20; refine c1.mono ?_; rintro e w1 ⟨rfl, hb1⟩; have hA1 := HW.out w1 hb1; have hb2 := hb1.alloc hb1.size (.cells #[.string ⟨#[110, 44, 44]⟩, .string ⟨#[97, 44, 98, 61]⟩, .string ⟨#[98]⟩, .string ⟨#[110, 61, 97, 61, 50, 67, 98, 61, 51, 68, 44, 114, 61, 98]⟩] 35))
    | (go_at_call 20; refine (c2 _ hb2).mono ?_; rintro e w3 ⟨rfl, hb3⟩; have hA3 := (hA1.below hb3).below ((Below.refl _ _).alloc (Nat.le_refl _) (.cells #[.string ⟨#[]⟩, .string ⟨#[]⟩, .string ⟨#[]⟩, .string ⟨#[]⟩] 35)); have r1 := hA3.c1; have r2 := hA3.c2; have r3 := hA3.c3))
  go_ret
  exact ⟨rfl, (hb2.trans (hb3.mono hb2.size)).alloc (Nat.le_trans hb2.size hb3.size) _⟩

theorem cutL_any (T : Tx) (w : World) (hT : T.length ≤ 9223372036854775807) : Calls Tryz.prog 12 #[.string ⟨T.toArray⟩] w fun e w' => e = .returned (.string ⟨(T.take 1100).toArray⟩) ∧ w' = w := by
  have c := fun w => text_any ⟨T.toArray⟩ 1100 w (by rw [size_tx]; exact hT) (by omega)
  have e1 : strOfNums ((nums ⟨T.toArray⟩).take 1100) = ⟨(T.take 1100).toArray⟩ := by
    show strOfNums ((il T).take 1100) = _
    rw [show (il T).take 1100 = il (T.take 1100) by simp [il, List.map_take], str_il]
  rw [e1] at c
  obtain ⟨S, HS⟩ : ∃ S, Hid ((⟨T.toArray⟩ : ByteArray) = S) := ⟨_, rfl⟩
  rw [HS.out] at c ⊢
  clear e1
  go_enter Tryz.func12, Tryz.ntmps12
  go_wp2_with (go_at_call 7; refine (c _).mono ?_; rintro e w1 ⟨rfl, rfl⟩)
  go_ret
  exact ⟨rfl, rfl⟩


/-- Two arrays of 32 bytes compared. -/
theorem wp_eql23 {ops : Array Oper} {rest : List Oper} {o : Oper} {a : Act} {w : World} {Q : Exit → Act → World → Prop} (hgd : o.guard = none) (x y : Operand) (ho : o.op = .binOp .eql 27 x y 27)
    (xs ys : List Int) (hx : a.eval x = .agg (ic .u8 xs).toArray) (hy : a.eval y = .agg (ic .u8 ys).toArray) (hlx : xs.length = 32) (hly : ys.length = 32)
    (h : wpList Tryz.prog ops Q rest (a.put o.dst (.bool (decide (xs = ys)))) w) : wpList Tryz.prog ops Q (o :: rest) a w := by
  have hr := exec_binOp (P := Tryz.prog) (w := w) (ρ := a.eval) .eql 27 x y _ ho _ _ _ hx hy (Tryz.guard23 w .eql x y _ _) (Tryz.eql23 w xs ys hlx hly)
  refine wpList_plain hgd fun _ hK => ?_
  unfold Oper.wp
  rw [hr]
  exact hK _ _ h

/-- The like, behind a guard. -/
theorem wp_eql23W {ops : Array Oper} {rest : List Oper} {o : Oper} {a : Act} {w : World} {Q : Exit → Act → World → Prop} (hw : Region.wanted o (yielded ops a.tmps) = true) (x y : Operand) (ho : o.op = .binOp .eql 27 x y 27)
    (xs ys : List Int) (hx : a.eval x = .agg (ic .u8 xs).toArray) (hy : a.eval y = .agg (ic .u8 ys).toArray) (hlx : xs.length = 32) (hly : ys.length = 32)
    (h : wpList Tryz.prog ops Q rest (a.put o.dst (.bool (decide (xs = ys)))) w) : wpList Tryz.prog ops Q (o :: rest) a w := by
  have hr := exec_binOp (P := Tryz.prog) (w := w) (ρ := a.eval) .eql 27 x y _ ho _ _ _ hx hy (Tryz.guard23 w .eql x y _ _) (Tryz.eql23 w xs ys hlx hly)
  refine Go.BigFrame.wpList_want hw fun _ hK => ?_
  unfold Oper.wp
  rw [hr]
  exact hK _ _ h


theorem wp_load_arW {ops : Array Oper} {rest : List Oper} {o : Oper} {a : Act} {w : World} {Q : Exit → Act → World → Prop} (hw : Region.wanted o (yielded ops a.tmps) = true) (ty : TypeId) (x : Operand) (ho : o.op = .load ty x)
    (g : Nat) (hx : a.eval x = .pointer (some ⟨g, 0, none⟩)) (t : TypeId) (k : IntKind) (xs : List Int) (e : TypeId) (n : Nat) (hg : Ar w g t k xs)
    (hu : (Tryz.prog.underlying ty, (Tryz.prog.info? ty).map (·.size)) = (some (.array n e), some n)) (hn : xs.length = n)
    (h : wpList Tryz.prog ops Q rest (a.put o.dst (.agg (ic k xs).toArray)) w) : wpList Tryz.prog ops Q (o :: rest) a w := by
  have hr := exec_load_ar (P := Tryz.prog) (w := w) (ρ := a.eval) ty x ho g hx t k xs e n hg hu hn
  refine Go.BigFrame.wpList_want hw fun _ hK => ?_
  unfold Oper.wp
  rw [hr]
  exact hK _ _ h
theorem exec_load_row {o : Oper} {ρ : Operand → Value} {w : World} (ty : TypeId) (x : Operand) (ho : o.op = .load ty x) (g : Nat) (hx : ρ x = .pointer (some ⟨g, 0, none⟩)) (t : TypeId) (cs : Array Value) (fs : Array Field) (hg : w.heap[g]? = some (.cells cs t (0, 0)))
    (hu : Tryz.prog.underlying ty = some (.struct fs)) (hi : (Tryz.prog.info? ty).map (·.size) = some cs.size) :
    (execOp ρ o).run Tryz.prog w = .ok (.value (.agg cs)) w := by
  unfold execOp
  simp only [ho, hx, Instr.loadAt, Instr.sureAddr, Sem.run_bind, Sem.run_pure, Result.andThen_ok, run_loadVar_row w g t ty cs (0, 0) _ hg hu rfl hi]

theorem text_tx (T : Tx) (m : Nat) (w : World) (hT : T.length ≤ 9223372036854775807) (hm : m ≤ 100000) : Calls Tryz.prog 7 #[.string ⟨T.toArray⟩, .int .i64 m] w fun e w' => e = .returned (.string ⟨(T.take m).toArray⟩) ∧ w' = w := by
  have c := text_any ⟨T.toArray⟩ m w (by rw [size_tx]; exact hT) hm
  have e1 : strOfNums ((nums ⟨T.toArray⟩).take m) = ⟨(T.take m).toArray⟩ := by
    show strOfNums ((il T).take m) = _
    rw [show (il T).take m = il (T.take m) by simp [il, List.map_take], str_il]
  rw [e1] at c
  exact c
theorem fewR60 (a : Option Addr) (n c : Nat) (xs : List Int) (w : World) (hR : Rd w a n c xs) :
    Calls Tryz.prog 9 #[.slice a n c] w fun e w' => ∃ a' n' c', e = .returned (.slice a' n' c') ∧ n' ≤ 60 ∧ Rd w' a' n' c' (xs.take 60) ∧ Below w.heap.size w w' :=
  (fewN a n c xs w hR).mono fun _ _ ⟨a', c', h1, _, h3, h4⟩ => ⟨a', _, c', h1, by rw [List.length_take]; omega, h3, h4⟩

def TkAt (w : World) (R : Nat) (a b c d e f : Value) : Prop := w.heap[R]? = some (.cells #[a, b, c, d, e, f] 24 (0, 0))
theorem TkAt.lt {w : World} {R : Nat} {a b c d e f : Value} (h : TkAt w R a b c d e f) : R < w.heap.size := (Array.getElem?_eq_some_iff.1 h).1
theorem TkAt.keep {S : Nat → Prop} {w w' : World} {R : Nat} {a b c d e f : Value} (h : TkAt w R a b c d e f) (hk : Keep S w w') (hs : ¬ S R) : TkAt w' R a b c d e f := (hk.block R h.lt hs).trans h
theorem TkAt.below {w w' : World} {R : Nat} {a b c d e f : Value} (h : TkAt w R a b c d e f) (hb : Below w.heap.size w w') : TkAt w' R a b c d e f := (hb.block R h.lt).trans h
theorem TkAt.c0 {w : World} {R : Nat} {a b c d e f : Value} (h : TkAt w R a b c d e f) : w.cell? ⟨R, 0, none⟩ = some a := by unfold TkAt at h; simp [World.cell?, h]
theorem TkAt.c2 {w : World} {R : Nat} {a b c d e f : Value} (h : TkAt w R a b c d e f) : w.cell? ⟨R, 2, none⟩ = some c := by unfold TkAt at h; simp [World.cell?, h]
theorem TkAt.c3 {w : World} {R : Nat} {a b c d e f : Value} (h : TkAt w R a b c d e f) : w.cell? ⟨R, 3, none⟩ = some d := by unfold TkAt at h; simp [World.cell?, h]
theorem TkAt.c4 {w : World} {R : Nat} {a b c d e f : Value} (h : TkAt w R a b c d e f) : w.cell? ⟨R, 4, none⟩ = some e := by unfold TkAt at h; simp [World.cell?, h]
theorem TkAt.c5 {w : World} {R : Nat} {a b c d e f : Value} (h : TkAt w R a b c d e f) : w.cell? ⟨R, 5, none⟩ = some f := by unfold TkAt at h; simp [World.cell?, h]

set_option maxHeartbeats 4000000 in
set_option maxRecDepth 100000 in
theorem scramKeys_any (P U O T : Tx) (a : Option Addr) (n c : Nat) (ss : List Int) (N : Int) (w : World) (h1 : P.length ≤ 9223372036854775807) (h2 : O.length ≤ 9223372036854775807) (h3 : T.length ≤ 9223372036854775807) (hR : Rd w a n c ss) (hK : Kt w) (hM : Mx w) (hT : Lib.Utf8Tabs 1 2 w) (hP : Pw w) :
    Calls Tryz.prog 3 #[.agg #[.string ⟨P.toArray⟩, .string ⟨U.toArray⟩, .string ⟨O.toArray⟩, .string ⟨T.toArray⟩, .slice a n c, .int .i64 N]] w fun e w' => e = .returned (.bool true) ∧ Below w.heap.size w w' := by
  have hi23 := (size_of Tryz.u23).2
  have hi35 : (Tryz.prog.info? 35).map (·.size) = some 4 := by kernel_rfl
  have cP := fun w => text_tx P 200 w h1 (by omega)
  have cO := fun w => text_tx O 200 w h2 (by omega)
  have cT := fun w => cutL_any T w h3
  have lP : (P.take 200).length ≤ 200 := by rw [List.length_take]; omega
  have lO : (O.take 200).length ≤ 200 := by rw [List.length_take]; omega
  have lT : (T.take 1100).length ≤ 1100 := by rw [List.length_take]; omega
  obtain ⟨P2, HP2⟩ : ∃ A, Hid (P.take 200 = A) := ⟨_, rfl⟩
  obtain ⟨O2, HO2⟩ : ∃ A, Hid (O.take 200 = A) := ⟨_, rfl⟩
  obtain ⟨T2, HT2⟩ : ∃ A, Hid (T.take 1100 = A) := ⟨_, rfl⟩
  rw [HP2.out] at cP lP
  rw [HO2.out] at cO lO
  rw [HT2.out] at cT lT
  have cf := fun (u : World) (h : Rd u a n c ss) => fewR60 a n c ss u h
  obtain ⟨X, HX⟩ := hidE (ss.take 60)
  rw [HX.out] at cf
  have cr := fun u => rounds_any N u
  obtain ⟨M, HM⟩ : ∃ M, Hid (rnd N = M) := ⟨_, rfl⟩
  rw [HM.out] at cr
  obtain ⟨A, B, C, E, lA, lB, lC, kA, kR⟩ := keys_both P2 X M (by omega)
  obtain ⟨Yt, G, kC, kD⟩ := challenge_both [] [] O2 [] T2 X M (by omega) (by omega)
  have cW := fun (u : World) (hb : Below w.heap.size w u) => wakes_any u (hM.below hb) (tabs_below hT hb)
  have HcW : Hid _ := cW
  have Hal : Hid (∀ (u : World) (o : Obj), Below u.heap.size u (u.alloc o)) := fun u o => (Below.refl _ _).alloc (Nat.le_refl _) o
  have Htr : Hid (∀ {u u' : World}, Below w.heap.size w u → Below u.heap.size u u' → Below w.heap.size w u') := fun h1 h2 => h1.trans (h2.mono h1.size)
  have HPw : Hid (∀ u, Below w.heap.size w u → Pw u) := fun u h => hP.below h
  clear h1 h2 h3 cW hM hT hP
  have hb0 : Below w.heap.size w (w.alloc (.cells #[.string ⟨P.toArray⟩, .string ⟨U.toArray⟩, .string ⟨O.toArray⟩, .string ⟨T.toArray⟩, .slice a n c, .int .i64 N] 24)) := (Below.refl _ _).alloc (Nat.le_refl _) _
  have hT0 : TkAt (w.alloc (.cells #[.string ⟨P.toArray⟩, .string ⟨U.toArray⟩, .string ⟨O.toArray⟩, .string ⟨T.toArray⟩, .slice a n c, .int .i64 N] 24)) w.heap.size (.string ⟨P.toArray⟩) (.string ⟨U.toArray⟩) (.string ⟨O.toArray⟩) (.string ⟨T.toArray⟩) (.slice a n c) (.int .i64 N) := heap_alloc_new _ _
  have rc5 := hT0.c5
  have tk1 : True := trivial
  have tk2 : True := trivial
  have tk3 : True := trivial
  have tk4 : True := trivial
  have tk5 : True := trivial
  have tk6 : True := trivial
  go_enter Tryz.func3, Tryz.ntmps3
  go_wp2_with (first
    | (go_at_call 6; refine (cr _).mono ?_; rintro e w1 ⟨rfl, hb1⟩; have hT1 := hT0.below hb1; have e1 := Htr.out hb0 hb1; have rc0 := hT1.c0; have rc4 := hT1.c4; clear rc5 hT0 hb0 hb1)
    | (clear tk1; go_at_call 7; refine (cP _).mono ?_; rintro e wq ⟨rfl, rfl⟩)
    | (clear tk2; go_at_call 9; refine (cf _ (hR.carry (Nat.le_refl _) e1)).mono ?_; rintro e w3 ⟨a3, n3, c3, rfl, hn3, hR3, hb3⟩; have e3 := Htr.out e1 hb3; have hT3 := hT1.below hb3; clear rc0 rc4 hb3 hT1 e1)
    | (go_at_call 8; refine (kA a3 n3 c3 _ hR3 (by omega) (hK.below (Nat.le_refl _) e3)).mono ?_; rintro e w4 ⟨rfl, hb4⟩; have e4 := Htr.out e3 hb4; have hT4 := hT3.below hb4; have l4 := hT4.lt; clear hR3 hb4 e3 hT3)
    | (clear tk3; refine wp_alloc_ar rfl 27 rfl .u8 (List.replicate 32 0) 32 Tryz.z23 ?_; intro g5 w5 A5 hg5 hb5; have e5 := Htr.out e4 hb5; have hT5 := hT4.below hb5; have l5 := A5.lt; have s5 := hb5.size; clear hb5 e4 hT4)
    | (clear tk4; refine wp_alloc_ar rfl 27 rfl .u8 (List.replicate 32 0) 32 Tryz.z23 ?_; intro g6 w6 A6 hg6 hb6; have e6 := Htr.out e5 hb6; have hT6 := hT5.below hb6; have A5' := A5.below hb6 l5; have l6 := A6.lt; have s6 := hb6.size; clear hb6 e5 hT5 A5)
    | (refine wp_store_ar rfl 27 (.tmp 5) (.tmp 30) rfl g5 rfl .u8 A rfl 27 _ A5' (by rw [lA]; rfl) (by rw [lA]; exact hi23) ?_; intro w7 A5a hk7 hs7; clear hs7; have z7 := hk7.size; have A6a := A6.keep hk7 (by omega); have hT7 := hT6.keep hk7 (by omega); have e7 : Below w.heap.size w w7 := e6.trans (hk7.below e6.size (fun q hq => by omega)); clear A5' A6 hT6 e6 hk7)
    | (refine wp_store_ar rfl 27 (.tmp 6) (.tmp 31) rfl g6 rfl .u8 B rfl 27 _ A6a (by rw [lB]; rfl) (by rw [lB]; exact hi23) ?_; intro w8 A6b hk8 hs8; clear hs8; have z8 := hk8.size; have A5b := A5a.keep hk8 (by omega); have hT8 := hT7.keep hk8 (by omega); have e8 : Below w.heap.size w w8 := e7.trans (hk8.below e7.size (fun q hq => by omega)); clear A5a A6a hT7 e7 hk8; have rc4 := hT8.c4)
    | (go_at_call 9; refine (cf _ (hR.carry (Nat.le_refl _) e8)).mono ?_; rintro e w9 ⟨a9, n9, c9, rfl, hn9, hR9, hb9⟩; clear rc4)
    | (go_at_call 10; refine (kR a9 n9 c9 _ hR9 (by omega)).mono ?_; rintro e wA ⟨rfl, hbA⟩; have bA := hb9.trans (hbA.mono hb9.size); have eA := Htr.out e8 bA; have hTA := hT8.below bA; have A5c := A5b.below bA A5b.lt; have A6c := A6b.below bA A6b.lt; have sA := bA.size; clear hb9 hbA hR9 bA e8 hT8 A5b A6b)
    | (clear tk5; refine wp_alloc_ar rfl 27 rfl .u8 (List.replicate 32 0) 32 Tryz.z23 ?_; intro g8 wB A8 hg8 hbB; have eB := Htr.out eA hbB; have hTB := hTA.below hbB; have A5d := A5c.below hbB A5c.lt; have A6d := A6c.below hbB A6c.lt; have l8 := A8.lt; have sB := hbB.size; clear hbB eA hTA A5c A6c)
    | (clear tk6; refine wp_alloc_ar rfl 27 rfl .u8 (List.replicate 32 0) 32 Tryz.z23 ?_; intro g9 wC A9 hg9 hbC; have eC := Htr.out eB hbC; have hTC := hTB.below hbC; have A5e := A5d.below hbC A5d.lt; have A6e := A6d.below hbC A6d.lt; have A8e := A8.below hbC l8; have l9 := A9.lt; have sC := hbC.size; clear hbC eB hTB A5d A6d A8)
    | (refine wp_alloc_ar rfl 27 rfl .u8 (List.replicate 32 0) 32 Tryz.z23 ?_; intro gT wD AT hgT hbD; have eD := Htr.out eC hbD; have hTD := hTC.below hbD; have A5f := A5e.below hbD A5e.lt; have A6f := A6e.below hbD A6e.lt; have A8f := A8e.below hbD A8e.lt; have A9f := A9.below hbD l9; have lT' := AT.lt; have sD := hbD.size; clear hbD eC hTC A5e A6e A8e A9)
    | (refine wp_store_ar rfl 27 (.tmp 8) (.tmp 40) rfl g8 rfl .u8 A rfl 27 _ A8f (by rw [lA]; rfl) (by rw [lA]; exact hi23) ?_; intro wE A8g hkE hsE; clear hsE; have zE := hkE.size; have A5g := A5f.keep hkE (by omega); have A6g := A6f.keep hkE (by omega); have A9g := A9f.keep hkE (by omega); have ATg := AT.keep hkE (by omega); have hTE := hTD.keep hkE (by omega); have eE : Below w.heap.size w wE := eD.trans (hkE.below eD.size (fun q hq => by omega)); clear A5f A6f A8f A9f AT hTD eD hkE)
    | (refine wp_store_ar rfl 27 (.tmp 9) (.tmp 41) rfl g9 rfl .u8 B rfl 27 _ A9g (by rw [lB]; rfl) (by rw [lB]; exact hi23) ?_; intro wF A9h hkF hsF; clear hsF; have zF := hkF.size; have A5h := A5g.keep hkF (by omega); have A6h := A6g.keep hkF (by omega); have A8h := A8g.keep hkF (by omega); have ATh := ATg.keep hkF (by omega); have hTF := hTE.keep hkF (by omega); have eF : Below w.heap.size w wF := eE.trans (hkF.below eE.size (fun q hq => by omega)); clear A5g A6g A8g A9g ATg hTE eE hkF)
    | (refine wp_store_ar rfl 27 (.tmp 10) (.tmp 42) rfl gT rfl .u8 C rfl 27 _ ATh (by rw [lC]; rfl) (by rw [lC]; exact hi23) ?_; intro wG ATi hkG hsG; clear hsG; have zG := hkG.size; have A5i := A5h.keep hkG (by omega); have A6i := A6h.keep hkG (by omega); have A8i := A8h.keep hkG (by omega); have A9i := A9h.keep hkG (by omega); have hTG := hTF.keep hkG (by omega); have eG : Below w.heap.size w wG := eF.trans (hkG.below eF.size (fun q hq => by omega)); clear A5h A6h A8h A9h ATh hTF eF hkG; have rc2 := hTG.c2)
    | (go_at_call 7; refine (cO _).mono ?_; rintro e wq ⟨rfl, rfl⟩))
  have b6 : Below wq.heap.size wq (wq.alloc (.cells #[.string ⟨#[]⟩, .string ⟨#[]⟩, .string ⟨O2.toArray⟩, .string ⟨#[]⟩] 35)) := Hal.out _ _
  have hF : FAt (wq.alloc (.cells #[.string ⟨#[]⟩, .string ⟨#[]⟩, .string ⟨O2.toArray⟩, .string ⟨#[]⟩] 35)) wq.heap.size (.string ⟨#[]⟩) (.string ⟨#[]⟩) (.string ⟨O2.toArray⟩) (.string ⟨#[]⟩) := heap_alloc_new _ _
  obtain ⟨V6, HV6⟩ : ∃ V, Hid (wq.alloc (.cells #[.string ⟨#[]⟩, .string ⟨#[]⟩, .string ⟨O2.toArray⟩, .string ⟨#[]⟩] 35) = V) := ⟨_, rfl⟩
  rw [HV6.out] at b6 hF ⊢
  have eV : Hid (Below w.heap.size w V6.drew) := (Htr.out eG b6).drew
  have hF6 : FAt V6.drew wq.heap.size (.string ⟨#[]⟩) (.string ⟨#[]⟩) (.string ⟨O2.toArray⟩) (.string ⟨#[]⟩) := hF
  have hT6 : TkAt V6.drew w.heap.size (.string ⟨P.toArray⟩) (.string ⟨U.toArray⟩) (.string ⟨O.toArray⟩) (.string ⟨T.toArray⟩) (.slice a n c) (.int .i64 N) := hTG.below b6.drew
  have hR6 := hR.carry (Nat.le_refl _) eV.out
  have hP6 := HPw.out _ eV.out
  have A5j : Ar V6.drew g5 27 .u8 A := A5i.below b6.drew A5i.lt
  have A6j : Ar V6.drew g6 27 .u8 B := A6i.below b6.drew A6i.lt
  have A8j : Ar V6.drew g8 27 .u8 A := A8i.below b6.drew A8i.lt
  have A9j : Ar V6.drew g9 27 .u8 B := A9i.below b6.drew A9i.lt
  clear A5i A6i A8i A9i ATi hTG eG rc2 b6 hF HV6 l4 hg5 l5 s5 hg6 l6 s6 z7 z8 sA hg8 l8 sB hg9 l9 sC hgT lT' sD zE zF zG kA kR cP cO cr
  refine Q.wp_region_facts [0, 1, 2, 3, 4, 5, 6, 7, 8, 9] (Gl [(fEq (.agg (fcells ⟨[], [], O2, []⟩))), (fEq (.pointer (some ⟨w.heap.size, 3, none⟩))), (fEq (.string ⟨T.toArray⟩)), (fEq (.string ⟨T2.toArray⟩)), (fEq (.pointer (some ⟨w.heap.size, 4, none⟩))), (fEq (.slice a n c)), (fRd X 60), (fEq (.int .i64 M)), (fEq (.tuple #[.string Yt, .int .i64 G])), (fEq (.tuple #[.string Yt, .int .i64 G]))]) 14 4 (by kernel_rfl) (by kernel_rfl) rfl (by kernel_rfl) (Q.lasts_list ?o49lst) ?o49ob ?_
  case o49lst =>
    intro g hg
    simp only [List.mem_cons, List.not_mem_nil, or_false] at hg
    rcases hg with rfl | rfl | rfl | rfl | rfl | rfl | rfl | rfl | rfl | rfl
    · exact Q.lasts_eq _
    · exact Q.lasts_eq _
    · exact Q.lasts_eq _
    · exact Q.lasts_eq _
    · exact Q.lasts_eq _
    · exact Q.lasts_eq _
    · exact Q.lasts_rd _ _
    · exact Q.lasts_eq _
    · exact Q.lasts_eq _
    · exact Q.lasts_eq _
  case o49ob =>
    refine (allIn_cons ?o490 (allIn_cons ?o491 (allIn_cons ?o492 (allIn_cons ?o493 (allIn_cons ?o494 (allIn_cons ?o495 (allIn_cons ?o496 (allIn_cons ?o497 (allIn_cons ?o498 (allIn_cons ?o499 allIn_nil))))))))))
    case o490 =>
      refine Q.ob_val 0 rfl rfl (by simp) (fun tm u h => ⟨?o49w0, ?_⟩)
      case o49w0 => exact wanted_none rfl
      have s12 : tm.getD 12 undef = .pointer (some ⟨wq.heap.size, 0, none⟩) := h.same 12 (of_decide_eq_true (by kernel_rfl))
      exact ⟨_, u, exec_load_row 35 (.tmp 12) rfl wq.heap.size s12 35 _ _ (hF6.below h.s) Tryz.underlying35 hi35, rfl, Below.refl _ _⟩
    case o491 =>
      refine Q.ob_val 1 rfl rfl (by simp) (fun tm u h => ⟨?o49w1, ?_⟩)
      case o49w1 => exact wanted_none rfl
      have s1 : tm.getD 1 undef = .pointer (some ⟨w.heap.size, 0, none⟩) := h.same 1 (of_decide_eq_true (by kernel_rfl))
      refine ⟨.pointer (some ⟨w.heap.size, 3, none⟩), u, ?_, rfl, Below.refl _ _⟩
      first | (go_simp; done) | (go_simp; rfl)
    case o492 =>
      refine Q.ob_val 2 rfl rfl (by simp) (fun tm u h => ⟨?o49w2, ?_⟩)
      case o49w2 => exact wanted_none rfl
      have f1 : tm.getD 50 undef = .pointer (some ⟨w.heap.size, 3, none⟩) := h.dep 1 _ _ (by simp) rfl rfl ⟨_, rfl, by kernel_rfl⟩
      have hc := (hT6.below h.s).c3
      refine ⟨_, u, ?_, rfl, Below.refl _ _⟩
      first | (go_simp; done) | (go_simp; rfl)
    case o493 =>
      refine Q.ob_call 3 rfl rfl (by simp) (fun tm u h => ⟨?o49w3, ?_⟩)
      case o49w3 => exact wanted_none rfl
      have f2 : tm.getD 51 undef = .string ⟨T.toArray⟩ := h.dep 2 _ _ (by simp) rfl rfl ⟨_, rfl, by kernel_rfl⟩
      refine ⟨12, #[.string ⟨T.toArray⟩], by first | (go_simp; done) | (go_simp; rfl), ?_⟩
      refine (cT u).mono ?_
      rintro e u2 ⟨rfl, rfl⟩
      exact ⟨_, rfl, rfl, Below.refl _ _⟩
    case o494 =>
      refine Q.ob_val 4 rfl rfl (by simp) (fun tm u h => ⟨?o49w4, ?_⟩)
      case o49w4 => exact wanted_none rfl
      have s1 : tm.getD 1 undef = .pointer (some ⟨w.heap.size, 0, none⟩) := h.same 1 (of_decide_eq_true (by kernel_rfl))
      refine ⟨.pointer (some ⟨w.heap.size, 4, none⟩), u, ?_, rfl, Below.refl _ _⟩
      first | (go_simp; done) | (go_simp; rfl)
    case o495 =>
      refine Q.ob_val 5 rfl rfl (by simp) (fun tm u h => ⟨?o49w5, ?_⟩)
      case o49w5 => exact wanted_none rfl
      have f4 : tm.getD 53 undef = .pointer (some ⟨w.heap.size, 4, none⟩) := h.dep 4 _ _ (by simp) rfl rfl ⟨_, rfl, by kernel_rfl⟩
      have hc := (hT6.below h.s).c4
      refine ⟨_, u, ?_, rfl, Below.refl _ _⟩
      first | (go_simp; done) | (go_simp; rfl)
    case o496 =>
      refine Q.ob_call 6 rfl rfl (by simp) (fun tm u h => ⟨?o49w6, ?_⟩)
      case o49w6 => exact wanted_none rfl
      have f5 : tm.getD 54 undef = .slice a n c := h.dep 5 _ _ (by simp) rfl rfl ⟨_, rfl, by kernel_rfl⟩
      refine ⟨9, #[.slice a n c], by first | (go_simp; done) | (go_simp; rfl), ?_⟩
      refine (cf u (hR6.carry (Nat.le_refl _) h.s)).mono ?_
      rintro e u2 ⟨a2, n2, c2, rfl, hn2, hr2, hb2⟩
      exact ⟨_, rfl, ⟨a2, n2, c2, rfl, hn2, hr2⟩, hb2⟩
    case o497 =>
      refine Q.ob_val 7 rfl rfl (by simp) (fun tm u h => ⟨?o49w7, ?_⟩)
      case o49w7 => exact wanted_none rfl
      have s3 : tm.getD 3 undef = .int .i64 M := h.same 3 (of_decide_eq_true (by kernel_rfl))
      exact ⟨.int .i64 M, u, by first | (go_simp; done) | (go_simp; rfl), rfl, Below.refl _ _⟩
    case o498 =>
      refine Q.ob_call 8 rfl rfl (by simp) (fun tm u h => ⟨?o49w8, ?_⟩)
      case o49w8 => exact wanted_none rfl
      have f0 : tm.getD 49 undef = .agg (fcells ⟨[], [], O2, []⟩) := h.dep 0 _ _ (by simp) rfl rfl ⟨_, rfl, by kernel_rfl⟩
      have f3 : tm.getD 52 undef = .string ⟨T2.toArray⟩ := h.dep 3 _ _ (by simp) rfl rfl ⟨_, rfl, by kernel_rfl⟩
      obtain ⟨a6, n6, c6, f6, hn6, hr6⟩ : fRd X 60 (tm.getD 55 undef) u := h.dep 6 _ _ (by simp) rfl rfl ⟨_, rfl, by kernel_rfl⟩
      have f7 : tm.getD 56 undef = .int .i64 M := h.dep 7 _ _ (by simp) rfl rfl ⟨_, rfl, by kernel_rfl⟩
      refine ⟨11, #[.agg (fcells ⟨[], [], O2, []⟩), .string ⟨T2.toArray⟩, .slice a6 n6 c6, .int .i64 M], by first | (go_simp; done) | (go_simp; rfl), ?_⟩
      refine (kC a6 n6 c6 u hr6 (by omega) (hP6.below h.s)).mono ?_
      rintro e u2 ⟨rfl, hb2⟩
      exact ⟨_, rfl, rfl, hb2⟩
    case o499 =>
      refine Q.ob_val 9 rfl rfl (by simp) (fun tm u h => ⟨?o49w9, ?_⟩)
      case o49w9 => exact wanted_none rfl
      have f8 : tm.getD 57 undef = .tuple #[.string Yt, .int .i64 G] := h.dep 8 _ _ (by simp) rfl rfl ⟨_, rfl, by kernel_rfl⟩
      refine ⟨.tuple #[.string Yt, .int .i64 G], u, ?_, rfl, Below.refl _ _⟩
      first | (go_simp; done) | (go_simp; rfl)
  intro af wf hAO
  have p1 : af.tmps.getD 1 undef = .pointer (some ⟨w.heap.size, 0, none⟩) := hAO.same 1 (of_decide_eq_true (by kernel_rfl))
  have p3 : af.tmps.getD 3 undef = .int .i64 M := hAO.same 3 (of_decide_eq_true (by kernel_rfl))
  have p5 : af.tmps.getD 5 undef = .pointer (some ⟨g5, 0, none⟩) := hAO.same 5 (of_decide_eq_true (by kernel_rfl))
  have p6 : af.tmps.getD 6 undef = .pointer (some ⟨g6, 0, none⟩) := hAO.same 6 (of_decide_eq_true (by kernel_rfl))
  have p7 : af.tmps.getD 7 undef = .int .i64 E := hAO.same 7 (of_decide_eq_true (by kernel_rfl))
  have p8 : af.tmps.getD 8 undef = .pointer (some ⟨g8, 0, none⟩) := hAO.same 8 (of_decide_eq_true (by kernel_rfl))
  have p9 : af.tmps.getD 9 undef = .pointer (some ⟨g9, 0, none⟩) := hAO.same 9 (of_decide_eq_true (by kernel_rfl))
  have p11 : af.tmps.getD 11 undef = .int .i64 E := hAO.same 11 (of_decide_eq_true (by kernel_rfl))
  have p12 : af.tmps.getD 12 undef = .pointer (some ⟨wq.heap.size, 0, none⟩) := hAO.same 12 (of_decide_eq_true (by kernel_rfl))
  have pQ : af.tmps.getD 48 undef = .tuple #[.string Yt, .int .i64 G] := hAO.got 9 _ _ rfl (by simp) rfl rfl
  have hs := hAO.s
  obtain ⟨tm, dfx⟩ := af
  obtain rfl : dfx = [] := hAO.df
  have hsz : tm.size = 98 := hAO.sz
  clear hAO
  have eF : tm = #[tm.getD 0 undef, tm.getD 1 undef, tm.getD 2 undef, tm.getD 3 undef, tm.getD 4 undef, tm.getD 5 undef, tm.getD 6 undef, tm.getD 7 undef, tm.getD 8 undef, tm.getD 9 undef, tm.getD 10 undef, tm.getD 11 undef, tm.getD 12 undef, tm.getD 13 undef, tm.getD 14 undef, tm.getD 15 undef, tm.getD 16 undef, tm.getD 17 undef, tm.getD 18 undef, tm.getD 19 undef, tm.getD 20 undef, tm.getD 21 undef, tm.getD 22 undef, tm.getD 23 undef, tm.getD 24 undef, tm.getD 25 undef, tm.getD 26 undef, tm.getD 27 undef, tm.getD 28 undef, tm.getD 29 undef, tm.getD 30 undef, tm.getD 31 undef, tm.getD 32 undef, tm.getD 33 undef, tm.getD 34 undef, tm.getD 35 undef, tm.getD 36 undef, tm.getD 37 undef, tm.getD 38 undef, tm.getD 39 undef, tm.getD 40 undef, tm.getD 41 undef, tm.getD 42 undef, tm.getD 43 undef, tm.getD 44 undef, tm.getD 45 undef, tm.getD 46 undef, tm.getD 47 undef, tm.getD 48 undef, tm.getD 49 undef, tm.getD 50 undef, tm.getD 51 undef, tm.getD 52 undef, tm.getD 53 undef, tm.getD 54 undef, tm.getD 55 undef, tm.getD 56 undef, tm.getD 57 undef, tm.getD 58 undef, tm.getD 59 undef, tm.getD 60 undef, tm.getD 61 undef, tm.getD 62 undef, tm.getD 63 undef, tm.getD 64 undef, tm.getD 65 undef, tm.getD 66 undef, tm.getD 67 undef, tm.getD 68 undef, tm.getD 69 undef, tm.getD 70 undef, tm.getD 71 undef, tm.getD 72 undef, tm.getD 73 undef, tm.getD 74 undef, tm.getD 75 undef, tm.getD 76 undef, tm.getD 77 undef, tm.getD 78 undef, tm.getD 79 undef, tm.getD 80 undef, tm.getD 81 undef, tm.getD 82 undef, tm.getD 83 undef, tm.getD 84 undef, tm.getD 85 undef, tm.getD 86 undef, tm.getD 87 undef, tm.getD 88 undef, tm.getD 89 undef, tm.getD 90 undef, tm.getD 91 undef, tm.getD 92 undef, tm.getD 93 undef, tm.getD 94 undef, tm.getD 95 undef, tm.getD 96 undef, tm.getD 97 undef] := eta_arr tm 98 hsz
  try dsimp only at eF
  have kF1 : tm.getD 1 undef = .pointer (some ⟨w.heap.size, 0, none⟩) := p1
  have kF3 : tm.getD 3 undef = .int .i64 M := p3
  have kF5 : tm.getD 5 undef = .pointer (some ⟨g5, 0, none⟩) := p5
  have kF6 : tm.getD 6 undef = .pointer (some ⟨g6, 0, none⟩) := p6
  have kF7 : tm.getD 7 undef = .int .i64 E := p7
  have kF8 : tm.getD 8 undef = .pointer (some ⟨g8, 0, none⟩) := p8
  have kF9 : tm.getD 9 undef = .pointer (some ⟨g9, 0, none⟩) := p9
  have kF11 : tm.getD 11 undef = .int .i64 E := p11
  have kF12 : tm.getD 12 undef = .pointer (some ⟨wq.heap.size, 0, none⟩) := p12
  have kF48 : tm.getD 48 undef = .tuple #[.string Yt, .int .i64 G] := pQ
  rw [kF1, kF3, kF5, kF6, kF7, kF8, kF9, kF11, kF12, kF48] at eF
  clear kF1 kF3 kF5 kF6 kF7 kF8 kF9 kF11 kF12 kF48
  generalize tm.getD 0 undef = vF0 at eF
  generalize tm.getD 2 undef = vF2 at eF
  generalize tm.getD 4 undef = vF4 at eF
  generalize tm.getD 10 undef = vF10 at eF
  generalize tm.getD 13 undef = vF13 at eF
  generalize tm.getD 14 undef = vF14 at eF
  generalize tm.getD 15 undef = vF15 at eF
  generalize tm.getD 16 undef = vF16 at eF
  generalize tm.getD 17 undef = vF17 at eF
  generalize tm.getD 18 undef = vF18 at eF
  generalize tm.getD 19 undef = vF19 at eF
  generalize tm.getD 20 undef = vF20 at eF
  generalize tm.getD 21 undef = vF21 at eF
  generalize tm.getD 22 undef = vF22 at eF
  generalize tm.getD 23 undef = vF23 at eF
  generalize tm.getD 24 undef = vF24 at eF
  generalize tm.getD 25 undef = vF25 at eF
  generalize tm.getD 26 undef = vF26 at eF
  generalize tm.getD 27 undef = vF27 at eF
  generalize tm.getD 28 undef = vF28 at eF
  generalize tm.getD 29 undef = vF29 at eF
  generalize tm.getD 30 undef = vF30 at eF
  generalize tm.getD 31 undef = vF31 at eF
  generalize tm.getD 32 undef = vF32 at eF
  generalize tm.getD 33 undef = vF33 at eF
  generalize tm.getD 34 undef = vF34 at eF
  generalize tm.getD 35 undef = vF35 at eF
  generalize tm.getD 36 undef = vF36 at eF
  generalize tm.getD 37 undef = vF37 at eF
  generalize tm.getD 38 undef = vF38 at eF
  generalize tm.getD 39 undef = vF39 at eF
  generalize tm.getD 40 undef = vF40 at eF
  generalize tm.getD 41 undef = vF41 at eF
  generalize tm.getD 42 undef = vF42 at eF
  generalize tm.getD 43 undef = vF43 at eF
  generalize tm.getD 44 undef = vF44 at eF
  generalize tm.getD 45 undef = vF45 at eF
  generalize tm.getD 46 undef = vF46 at eF
  generalize tm.getD 47 undef = vF47 at eF
  generalize tm.getD 49 undef = vF49 at eF
  generalize tm.getD 50 undef = vF50 at eF
  generalize tm.getD 51 undef = vF51 at eF
  generalize tm.getD 52 undef = vF52 at eF
  generalize tm.getD 53 undef = vF53 at eF
  generalize tm.getD 54 undef = vF54 at eF
  generalize tm.getD 55 undef = vF55 at eF
  generalize tm.getD 56 undef = vF56 at eF
  generalize tm.getD 57 undef = vF57 at eF
  generalize tm.getD 58 undef = vF58 at eF
  generalize tm.getD 59 undef = vF59 at eF
  generalize tm.getD 60 undef = vF60 at eF
  generalize tm.getD 61 undef = vF61 at eF
  generalize tm.getD 62 undef = vF62 at eF
  generalize tm.getD 63 undef = vF63 at eF
  generalize tm.getD 64 undef = vF64 at eF
  generalize tm.getD 65 undef = vF65 at eF
  generalize tm.getD 66 undef = vF66 at eF
  generalize tm.getD 67 undef = vF67 at eF
  generalize tm.getD 68 undef = vF68 at eF
  generalize tm.getD 69 undef = vF69 at eF
  generalize tm.getD 70 undef = vF70 at eF
  generalize tm.getD 71 undef = vF71 at eF
  generalize tm.getD 72 undef = vF72 at eF
  generalize tm.getD 73 undef = vF73 at eF
  generalize tm.getD 74 undef = vF74 at eF
  generalize tm.getD 75 undef = vF75 at eF
  generalize tm.getD 76 undef = vF76 at eF
  generalize tm.getD 77 undef = vF77 at eF
  generalize tm.getD 78 undef = vF78 at eF
  generalize tm.getD 79 undef = vF79 at eF
  generalize tm.getD 80 undef = vF80 at eF
  generalize tm.getD 81 undef = vF81 at eF
  generalize tm.getD 82 undef = vF82 at eF
  generalize tm.getD 83 undef = vF83 at eF
  generalize tm.getD 84 undef = vF84 at eF
  generalize tm.getD 85 undef = vF85 at eF
  generalize tm.getD 86 undef = vF86 at eF
  generalize tm.getD 87 undef = vF87 at eF
  generalize tm.getD 88 undef = vF88 at eF
  generalize tm.getD 89 undef = vF89 at eF
  generalize tm.getD 90 undef = vF90 at eF
  generalize tm.getD 91 undef = vF91 at eF
  generalize tm.getD 92 undef = vF92 at eF
  generalize tm.getD 93 undef = vF93 at eF
  generalize tm.getD 94 undef = vF94 at eF
  generalize tm.getD 95 undef = vF95 at eF
  generalize tm.getD 96 undef = vF96 at eF
  generalize tm.getD 97 undef = vF97 at eF
  subst eF
  have HT : True := trivial
  refine lx_rd 10 (.string Yt) (by kernel_rfl) (fun _ _ d _ _ h => by cases d <;> exact h) (by kernel_rfl) HT rfl rfl rfl (fun w' hS => ?hRA10) ?_
  case hRA10 => first | (go_simp; rfl) | go_simp
  simp only [List.setIfInBounds_toArray, List.set_cons_zero, List.set_cons_succ]
  refine lx_rd 11 (.int .i64 G) (by kernel_rfl) (fun _ _ d _ _ h => by cases d <;> exact h) (by kernel_rfl) HT rfl rfl rfl (fun w' hS => ?hRA11) ?_
  case hRA11 => first | (go_simp; rfl) | go_simp
  simp only [List.setIfInBounds_toArray, List.set_cons_zero, List.set_cons_succ]
  refine lx_one 12 (by kernel_rfl) (stepT_val (w' := wf) (.string Yt) rfl rfl rfl (by first | (go_simp; done) | (go_simp; rfl)) (fun _ => trivial) ?_)
  refine lx_one 13 (by kernel_rfl) (stepT_val (w' := wf) (.int .i64 G) rfl rfl rfl (by first | (go_simp; done) | (go_simp; rfl)) (fun _ => trivial) ?_)
  refine lx_nil (by kernel_rfl) ?_
  simp only [List.setIfInBounds_toArray, List.set_cons_zero, List.set_cons_succ]
  have eW : Hid (Below w.heap.size w wf.drew) := (eV.out.trans (hs.mono eV.out.size)).drew
  have hF7 : FAt wf.drew wq.heap.size (.string ⟨#[]⟩) (.string ⟨#[]⟩) (.string ⟨O2.toArray⟩) (.string ⟨#[]⟩) := hF6.below hs.drew
  have hT7 : TkAt wf.drew w.heap.size (.string ⟨P.toArray⟩) (.string ⟨U.toArray⟩) (.string ⟨O.toArray⟩) (.string ⟨T.toArray⟩) (.slice a n c) (.int .i64 N) := hT6.below hs.drew
  have hR7 := hR.carry (Nat.le_refl _) eW.out
  have A5k : Ar wf.drew g5 27 .u8 A := A5j.below hs.drew A5j.lt
  have A6k : Ar wf.drew g6 27 .u8 B := A6j.below hs.drew A6j.lt
  have A8k : Ar wf.drew g8 27 .u8 A := A8j.below hs.drew A8j.lt
  have A9k : Ar wf.drew g9 27 .u8 B := A9j.below hs.drew A9j.lt
  clear A5j A6j A8j A9j hF6 hT6 hR6 hP6 eV hs kC HT
  go_wp2_with fail
  refine Q.wp_region_facts [0, 1, 2, 3, 4, 5, 6, 7, 8, 9] (Gl [(fEq (.agg (fcells ⟨[], [], O2, []⟩))), (fEq (.pointer (some ⟨w.heap.size, 3, none⟩))), (fEq (.string ⟨T.toArray⟩)), (fEq (.string ⟨T2.toArray⟩)), (fEq (.pointer (some ⟨w.heap.size, 4, none⟩))), (fEq (.slice a n c)), (fRd X 60), (fEq (.int .i64 M)), (fEq (.tuple #[.string Yt, .int .i64 G])), (fEq (.tuple #[.string Yt, .int .i64 G]))]) 14 4 (by kernel_rfl) (by kernel_rfl) rfl (by kernel_rfl) (Q.lasts_list ?o61lst) ?o61ob ?_
  case o61lst =>
    intro g hg
    simp only [List.mem_cons, List.not_mem_nil, or_false] at hg
    rcases hg with rfl | rfl | rfl | rfl | rfl | rfl | rfl | rfl | rfl | rfl
    · exact Q.lasts_eq _
    · exact Q.lasts_eq _
    · exact Q.lasts_eq _
    · exact Q.lasts_eq _
    · exact Q.lasts_eq _
    · exact Q.lasts_eq _
    · exact Q.lasts_rd _ _
    · exact Q.lasts_eq _
    · exact Q.lasts_eq _
    · exact Q.lasts_eq _
  case o61ob =>
    refine (allIn_cons ?o610 (allIn_cons ?o611 (allIn_cons ?o612 (allIn_cons ?o613 (allIn_cons ?o614 (allIn_cons ?o615 (allIn_cons ?o616 (allIn_cons ?o617 (allIn_cons ?o618 (allIn_cons ?o619 allIn_nil))))))))))
    case o610 =>
      refine Q.ob_val 0 rfl rfl (by simp) (fun tm u h => ⟨?o61w0, ?_⟩)
      case o61w0 => exact wanted_none rfl
      have s12 : tm.getD 12 undef = .pointer (some ⟨wq.heap.size, 0, none⟩) := h.same 12 (of_decide_eq_true (by kernel_rfl))
      exact ⟨_, u, exec_load_row 35 (.tmp 12) rfl wq.heap.size s12 35 _ _ (hF7.below h.s) Tryz.underlying35 hi35, rfl, Below.refl _ _⟩
    case o611 =>
      refine Q.ob_val 1 rfl rfl (by simp) (fun tm u h => ⟨?o61w1, ?_⟩)
      case o61w1 => exact wanted_none rfl
      have s1 : tm.getD 1 undef = .pointer (some ⟨w.heap.size, 0, none⟩) := h.same 1 (of_decide_eq_true (by kernel_rfl))
      refine ⟨.pointer (some ⟨w.heap.size, 3, none⟩), u, ?_, rfl, Below.refl _ _⟩
      first | (go_simp; done) | (go_simp; rfl)
    case o612 =>
      refine Q.ob_val 2 rfl rfl (by simp) (fun tm u h => ⟨?o61w2, ?_⟩)
      case o61w2 => exact wanted_none rfl
      have f1 : tm.getD 62 undef = .pointer (some ⟨w.heap.size, 3, none⟩) := h.dep 1 _ _ (by simp) rfl rfl ⟨_, rfl, by kernel_rfl⟩
      have hc := (hT7.below h.s).c3
      refine ⟨_, u, ?_, rfl, Below.refl _ _⟩
      first | (go_simp; done) | (go_simp; rfl)
    case o613 =>
      refine Q.ob_call 3 rfl rfl (by simp) (fun tm u h => ⟨?o61w3, ?_⟩)
      case o61w3 => exact wanted_none rfl
      have f2 : tm.getD 63 undef = .string ⟨T.toArray⟩ := h.dep 2 _ _ (by simp) rfl rfl ⟨_, rfl, by kernel_rfl⟩
      refine ⟨12, #[.string ⟨T.toArray⟩], by first | (go_simp; done) | (go_simp; rfl), ?_⟩
      refine (cT u).mono ?_
      rintro e u2 ⟨rfl, rfl⟩
      exact ⟨_, rfl, rfl, Below.refl _ _⟩
    case o614 =>
      refine Q.ob_val 4 rfl rfl (by simp) (fun tm u h => ⟨?o61w4, ?_⟩)
      case o61w4 => exact wanted_none rfl
      have s1 : tm.getD 1 undef = .pointer (some ⟨w.heap.size, 0, none⟩) := h.same 1 (of_decide_eq_true (by kernel_rfl))
      refine ⟨.pointer (some ⟨w.heap.size, 4, none⟩), u, ?_, rfl, Below.refl _ _⟩
      first | (go_simp; done) | (go_simp; rfl)
    case o615 =>
      refine Q.ob_val 5 rfl rfl (by simp) (fun tm u h => ⟨?o61w5, ?_⟩)
      case o61w5 => exact wanted_none rfl
      have f4 : tm.getD 65 undef = .pointer (some ⟨w.heap.size, 4, none⟩) := h.dep 4 _ _ (by simp) rfl rfl ⟨_, rfl, by kernel_rfl⟩
      have hc := (hT7.below h.s).c4
      refine ⟨_, u, ?_, rfl, Below.refl _ _⟩
      first | (go_simp; done) | (go_simp; rfl)
    case o616 =>
      refine Q.ob_call 6 rfl rfl (by simp) (fun tm u h => ⟨?o61w6, ?_⟩)
      case o61w6 => exact wanted_none rfl
      have f5 : tm.getD 66 undef = .slice a n c := h.dep 5 _ _ (by simp) rfl rfl ⟨_, rfl, by kernel_rfl⟩
      refine ⟨9, #[.slice a n c], by first | (go_simp; done) | (go_simp; rfl), ?_⟩
      refine (cf u (hR7.carry (Nat.le_refl _) h.s)).mono ?_
      rintro e u2 ⟨a2, n2, c2, rfl, hn2, hr2, hb2⟩
      exact ⟨_, rfl, ⟨a2, n2, c2, rfl, hn2, hr2⟩, hb2⟩
    case o617 =>
      refine Q.ob_val 7 rfl rfl (by simp) (fun tm u h => ⟨?o61w7, ?_⟩)
      case o61w7 => exact wanted_none rfl
      have s3 : tm.getD 3 undef = .int .i64 M := h.same 3 (of_decide_eq_true (by kernel_rfl))
      exact ⟨.int .i64 M, u, by first | (go_simp; done) | (go_simp; rfl), rfl, Below.refl _ _⟩
    case o618 =>
      refine Q.ob_call 8 rfl rfl (by simp) (fun tm u h => ⟨?o61w8, ?_⟩)
      case o61w8 => exact wanted_none rfl
      have f0 : tm.getD 61 undef = .agg (fcells ⟨[], [], O2, []⟩) := h.dep 0 _ _ (by simp) rfl rfl ⟨_, rfl, by kernel_rfl⟩
      have f3 : tm.getD 64 undef = .string ⟨T2.toArray⟩ := h.dep 3 _ _ (by simp) rfl rfl ⟨_, rfl, by kernel_rfl⟩
      obtain ⟨a6, n6, c6, f6, hn6, hr6⟩ : fRd X 60 (tm.getD 67 undef) u := h.dep 6 _ _ (by simp) rfl rfl ⟨_, rfl, by kernel_rfl⟩
      have f7 : tm.getD 68 undef = .int .i64 M := h.dep 7 _ _ (by simp) rfl rfl ⟨_, rfl, by kernel_rfl⟩
      refine ⟨13, #[.agg (fcells ⟨[], [], O2, []⟩), .string ⟨T2.toArray⟩, .slice a6 n6 c6, .int .i64 M], by first | (go_simp; done) | (go_simp; rfl), ?_⟩
      refine (kD a6 n6 c6 u hr6 (by omega)).mono ?_
      rintro e u2 ⟨rfl, hb2⟩
      exact ⟨_, rfl, rfl, hb2⟩
    case o619 =>
      refine Q.ob_val 9 rfl rfl (by simp) (fun tm u h => ⟨?o61w9, ?_⟩)
      case o61w9 => exact wanted_none rfl
      have f8 : tm.getD 69 undef = .tuple #[.string Yt, .int .i64 G] := h.dep 8 _ _ (by simp) rfl rfl ⟨_, rfl, by kernel_rfl⟩
      refine ⟨.tuple #[.string Yt, .int .i64 G], u, ?_, rfl, Below.refl _ _⟩
      first | (go_simp; done) | (go_simp; rfl)
  intro af wg hAO
  have p1 : af.tmps.getD 1 undef = .pointer (some ⟨w.heap.size, 0, none⟩) := hAO.same 1 (of_decide_eq_true (by kernel_rfl))
  have p3 : af.tmps.getD 3 undef = .int .i64 M := hAO.same 3 (of_decide_eq_true (by kernel_rfl))
  have p5 : af.tmps.getD 5 undef = .pointer (some ⟨g5, 0, none⟩) := hAO.same 5 (of_decide_eq_true (by kernel_rfl))
  have p6 : af.tmps.getD 6 undef = .pointer (some ⟨g6, 0, none⟩) := hAO.same 6 (of_decide_eq_true (by kernel_rfl))
  have p7 : af.tmps.getD 7 undef = .int .i64 E := hAO.same 7 (of_decide_eq_true (by kernel_rfl))
  have p8 : af.tmps.getD 8 undef = .pointer (some ⟨g8, 0, none⟩) := hAO.same 8 (of_decide_eq_true (by kernel_rfl))
  have p9 : af.tmps.getD 9 undef = .pointer (some ⟨g9, 0, none⟩) := hAO.same 9 (of_decide_eq_true (by kernel_rfl))
  have p11 : af.tmps.getD 11 undef = .int .i64 E := hAO.same 11 (of_decide_eq_true (by kernel_rfl))
  have p12 : af.tmps.getD 12 undef = .pointer (some ⟨wq.heap.size, 0, none⟩) := hAO.same 12 (of_decide_eq_true (by kernel_rfl))
  have p13 : af.tmps.getD 13 undef = .string Yt := hAO.same 13 (of_decide_eq_true (by kernel_rfl))
  have p14 : af.tmps.getD 14 undef = .int .i64 G := hAO.same 14 (of_decide_eq_true (by kernel_rfl))
  have pQ : af.tmps.getD 60 undef = .tuple #[.string Yt, .int .i64 G] := hAO.got 9 _ _ rfl (by simp) rfl rfl
  have hs := hAO.s
  obtain ⟨tm, dfx⟩ := af
  obtain rfl : dfx = [] := hAO.df
  have hsz : tm.size = 98 := hAO.sz
  clear hAO
  have eF : tm = #[tm.getD 0 undef, tm.getD 1 undef, tm.getD 2 undef, tm.getD 3 undef, tm.getD 4 undef, tm.getD 5 undef, tm.getD 6 undef, tm.getD 7 undef, tm.getD 8 undef, tm.getD 9 undef, tm.getD 10 undef, tm.getD 11 undef, tm.getD 12 undef, tm.getD 13 undef, tm.getD 14 undef, tm.getD 15 undef, tm.getD 16 undef, tm.getD 17 undef, tm.getD 18 undef, tm.getD 19 undef, tm.getD 20 undef, tm.getD 21 undef, tm.getD 22 undef, tm.getD 23 undef, tm.getD 24 undef, tm.getD 25 undef, tm.getD 26 undef, tm.getD 27 undef, tm.getD 28 undef, tm.getD 29 undef, tm.getD 30 undef, tm.getD 31 undef, tm.getD 32 undef, tm.getD 33 undef, tm.getD 34 undef, tm.getD 35 undef, tm.getD 36 undef, tm.getD 37 undef, tm.getD 38 undef, tm.getD 39 undef, tm.getD 40 undef, tm.getD 41 undef, tm.getD 42 undef, tm.getD 43 undef, tm.getD 44 undef, tm.getD 45 undef, tm.getD 46 undef, tm.getD 47 undef, tm.getD 48 undef, tm.getD 49 undef, tm.getD 50 undef, tm.getD 51 undef, tm.getD 52 undef, tm.getD 53 undef, tm.getD 54 undef, tm.getD 55 undef, tm.getD 56 undef, tm.getD 57 undef, tm.getD 58 undef, tm.getD 59 undef, tm.getD 60 undef, tm.getD 61 undef, tm.getD 62 undef, tm.getD 63 undef, tm.getD 64 undef, tm.getD 65 undef, tm.getD 66 undef, tm.getD 67 undef, tm.getD 68 undef, tm.getD 69 undef, tm.getD 70 undef, tm.getD 71 undef, tm.getD 72 undef, tm.getD 73 undef, tm.getD 74 undef, tm.getD 75 undef, tm.getD 76 undef, tm.getD 77 undef, tm.getD 78 undef, tm.getD 79 undef, tm.getD 80 undef, tm.getD 81 undef, tm.getD 82 undef, tm.getD 83 undef, tm.getD 84 undef, tm.getD 85 undef, tm.getD 86 undef, tm.getD 87 undef, tm.getD 88 undef, tm.getD 89 undef, tm.getD 90 undef, tm.getD 91 undef, tm.getD 92 undef, tm.getD 93 undef, tm.getD 94 undef, tm.getD 95 undef, tm.getD 96 undef, tm.getD 97 undef] := eta_arr tm 98 hsz
  try dsimp only at eF
  have kF1 : tm.getD 1 undef = .pointer (some ⟨w.heap.size, 0, none⟩) := p1
  have kF3 : tm.getD 3 undef = .int .i64 M := p3
  have kF5 : tm.getD 5 undef = .pointer (some ⟨g5, 0, none⟩) := p5
  have kF6 : tm.getD 6 undef = .pointer (some ⟨g6, 0, none⟩) := p6
  have kF7 : tm.getD 7 undef = .int .i64 E := p7
  have kF8 : tm.getD 8 undef = .pointer (some ⟨g8, 0, none⟩) := p8
  have kF9 : tm.getD 9 undef = .pointer (some ⟨g9, 0, none⟩) := p9
  have kF11 : tm.getD 11 undef = .int .i64 E := p11
  have kF12 : tm.getD 12 undef = .pointer (some ⟨wq.heap.size, 0, none⟩) := p12
  have kF13 : tm.getD 13 undef = .string Yt := p13
  have kF14 : tm.getD 14 undef = .int .i64 G := p14
  have kF60 : tm.getD 60 undef = .tuple #[.string Yt, .int .i64 G] := pQ
  rw [kF1, kF3, kF5, kF6, kF7, kF8, kF9, kF11, kF12, kF13, kF14, kF60] at eF
  clear kF1 kF3 kF5 kF6 kF7 kF8 kF9 kF11 kF12 kF13 kF14 kF60
  generalize tm.getD 0 undef = vF0 at eF
  generalize tm.getD 2 undef = vF2 at eF
  generalize tm.getD 4 undef = vF4 at eF
  generalize tm.getD 10 undef = vF10 at eF
  generalize tm.getD 15 undef = vF15 at eF
  generalize tm.getD 16 undef = vF16 at eF
  generalize tm.getD 17 undef = vF17 at eF
  generalize tm.getD 18 undef = vF18 at eF
  generalize tm.getD 19 undef = vF19 at eF
  generalize tm.getD 20 undef = vF20 at eF
  generalize tm.getD 21 undef = vF21 at eF
  generalize tm.getD 22 undef = vF22 at eF
  generalize tm.getD 23 undef = vF23 at eF
  generalize tm.getD 24 undef = vF24 at eF
  generalize tm.getD 25 undef = vF25 at eF
  generalize tm.getD 26 undef = vF26 at eF
  generalize tm.getD 27 undef = vF27 at eF
  generalize tm.getD 28 undef = vF28 at eF
  generalize tm.getD 29 undef = vF29 at eF
  generalize tm.getD 30 undef = vF30 at eF
  generalize tm.getD 31 undef = vF31 at eF
  generalize tm.getD 32 undef = vF32 at eF
  generalize tm.getD 33 undef = vF33 at eF
  generalize tm.getD 34 undef = vF34 at eF
  generalize tm.getD 35 undef = vF35 at eF
  generalize tm.getD 36 undef = vF36 at eF
  generalize tm.getD 37 undef = vF37 at eF
  generalize tm.getD 38 undef = vF38 at eF
  generalize tm.getD 39 undef = vF39 at eF
  generalize tm.getD 40 undef = vF40 at eF
  generalize tm.getD 41 undef = vF41 at eF
  generalize tm.getD 42 undef = vF42 at eF
  generalize tm.getD 43 undef = vF43 at eF
  generalize tm.getD 44 undef = vF44 at eF
  generalize tm.getD 45 undef = vF45 at eF
  generalize tm.getD 46 undef = vF46 at eF
  generalize tm.getD 47 undef = vF47 at eF
  generalize tm.getD 48 undef = vF48 at eF
  generalize tm.getD 49 undef = vF49 at eF
  generalize tm.getD 50 undef = vF50 at eF
  generalize tm.getD 51 undef = vF51 at eF
  generalize tm.getD 52 undef = vF52 at eF
  generalize tm.getD 53 undef = vF53 at eF
  generalize tm.getD 54 undef = vF54 at eF
  generalize tm.getD 55 undef = vF55 at eF
  generalize tm.getD 56 undef = vF56 at eF
  generalize tm.getD 57 undef = vF57 at eF
  generalize tm.getD 58 undef = vF58 at eF
  generalize tm.getD 59 undef = vF59 at eF
  generalize tm.getD 61 undef = vF61 at eF
  generalize tm.getD 62 undef = vF62 at eF
  generalize tm.getD 63 undef = vF63 at eF
  generalize tm.getD 64 undef = vF64 at eF
  generalize tm.getD 65 undef = vF65 at eF
  generalize tm.getD 66 undef = vF66 at eF
  generalize tm.getD 67 undef = vF67 at eF
  generalize tm.getD 68 undef = vF68 at eF
  generalize tm.getD 69 undef = vF69 at eF
  generalize tm.getD 70 undef = vF70 at eF
  generalize tm.getD 71 undef = vF71 at eF
  generalize tm.getD 72 undef = vF72 at eF
  generalize tm.getD 73 undef = vF73 at eF
  generalize tm.getD 74 undef = vF74 at eF
  generalize tm.getD 75 undef = vF75 at eF
  generalize tm.getD 76 undef = vF76 at eF
  generalize tm.getD 77 undef = vF77 at eF
  generalize tm.getD 78 undef = vF78 at eF
  generalize tm.getD 79 undef = vF79 at eF
  generalize tm.getD 80 undef = vF80 at eF
  generalize tm.getD 81 undef = vF81 at eF
  generalize tm.getD 82 undef = vF82 at eF
  generalize tm.getD 83 undef = vF83 at eF
  generalize tm.getD 84 undef = vF84 at eF
  generalize tm.getD 85 undef = vF85 at eF
  generalize tm.getD 86 undef = vF86 at eF
  generalize tm.getD 87 undef = vF87 at eF
  generalize tm.getD 88 undef = vF88 at eF
  generalize tm.getD 89 undef = vF89 at eF
  generalize tm.getD 90 undef = vF90 at eF
  generalize tm.getD 91 undef = vF91 at eF
  generalize tm.getD 92 undef = vF92 at eF
  generalize tm.getD 93 undef = vF93 at eF
  generalize tm.getD 94 undef = vF94 at eF
  generalize tm.getD 95 undef = vF95 at eF
  generalize tm.getD 96 undef = vF96 at eF
  generalize tm.getD 97 undef = vF97 at eF
  subst eF
  have HT : True := trivial
  refine lx_rd 10 (.string Yt) (by kernel_rfl) (fun _ _ d _ _ h => by cases d <;> exact h) (by kernel_rfl) HT rfl rfl rfl (fun w' hS => ?hRB10) ?_
  case hRB10 => first | (go_simp; rfl) | go_simp
  simp only [List.setIfInBounds_toArray, List.set_cons_zero, List.set_cons_succ]
  refine lx_rd 11 (.int .i64 G) (by kernel_rfl) (fun _ _ d _ _ h => by cases d <;> exact h) (by kernel_rfl) HT rfl rfl rfl (fun w' hS => ?hRB11) ?_
  case hRB11 => first | (go_simp; rfl) | go_simp
  simp only [List.setIfInBounds_toArray, List.set_cons_zero, List.set_cons_succ]
  refine lx_one 12 (by kernel_rfl) (stepT_val (w' := wg) (.string Yt) rfl rfl rfl (by first | (go_simp; done) | (go_simp; rfl)) (fun _ => trivial) ?_)
  refine lx_one 13 (by kernel_rfl) (stepT_val (w' := wg) (.int .i64 G) rfl rfl rfl (by first | (go_simp; done) | (go_simp; rfl)) (fun _ => trivial) ?_)
  refine lx_nil (by kernel_rfl) ?_
  simp only [List.setIfInBounds_toArray, List.set_cons_zero, List.set_cons_succ]
  have eX : Below w.heap.size w wg := eW.out.trans (hs.mono eW.out.size)
  have A5m := A5k.below hs A5k.lt
  have A6m := A6k.below hs A6k.lt
  have A8m := A8k.below hs A8k.lt
  have A9m := A9k.below hs A9k.lt
  clear A5k A6k A8k A9k hF7 hT7 hR7 eW hs kD HT cT cf hR hK HPw
  go_wp2_with (first
    | (refine wp_load_ar rfl 27 (.tmp 5) rfl g5 rfl 27 .u8 A 5 32 A5m Tryz.u23 lA ?_)
    | (refine wp_load_ar rfl 27 (.tmp 8) rfl g8 rfl 27 .u8 A 5 32 A8m Tryz.u23 lA ?_)
    | (refine wp_eql23 rfl (.tmp 72) (.tmp 73) rfl A A rfl rfl lA lA ?_; rw [show decide (A = A) = true from by simp])
    | (refine wp_load_arW rfl 27 (.tmp 6) rfl g6 rfl 27 .u8 B 5 32 A6m Tryz.u23 lB ?_)
    | (refine wp_load_arW rfl 27 (.tmp 9) rfl g9 rfl 27 .u8 B 5 32 A9m Tryz.u23 lB ?_)
    | (refine wp_eql23W rfl (.tmp 76) (.tmp 77) rfl B B rfl rfl lB lB ?_; rw [show decide (B = B) = true from by simp])
    | (go_at_call 14; refine (HcW.out _ eX).mono ?_; rintro e W8 ⟨rfl, hb8⟩))
  go_ret
  exact ⟨rfl, Htr.out eX hb8⟩
end Go.Proofs.YtmilcknboaefkaaGreatDoor

/- What the rows' list gives: the tables of UTF-8, of powers of ten and the digest's two; an argument of the type Talk, opened. -/
namespace Go.Proofs.YtmilcknboaefkaaGreatDoor
open Go.ChangeShapes Go.WideShapes Go.ChangeAt Go.RowKit

theorem gUF : Tryz.prog.globalNamed "unicode/utf8.first" = some 1 := by kernel_rfl
theorem gAcc : Tryz.prog.globalNamed "unicode/utf8.acceptRanges" = some 2 := by kernel_rfl
theorem gUFType : (Tryz.prog.globals[1]?).map (·.type) = some 116 := by kernel_rfl
theorem gAccType : (Tryz.prog.globals[2]?).map (·.type) = some 119 := by kernel_rfl
theorem cellsFirst : Tryz.prog.cellsOf 116 = 256 := by kernel_rfl
theorem cellsAcc : Tryz.prog.cellsOf 118 = 2 := by kernel_rfl
theorem cellsByte1 : Tryz.prog.cellsOf 5 = 1 := by kernel_rfl

def firstTab : List Int := Go.Pinned.utf8FirstZ.map fun (n : Nat) => (n : Int)
theorem first_eq : Rows.laid_unicode_utf8_first = Lib.tabData .u8 firstTab := by
  simp only [Rows.laid_unicode_utf8_first, Go.Pinned.utf8First, Go.Pinned.numbers, Lib.tabData, firstTab, List.map_map]
  rfl
theorem first_len : firstTab.length = 256 := by decide +kernel
theorem first_at : ∀ c : Nat, c < 256 → firstTab.getD c 0 = ((Lib.firstT c : Nat) : Int) := by decide +kernel

def accTab : List (Int × Int) := [(128, 191), (160, 191), (128, 159), (144, 191), (128, 143), (0, 0), (0, 0), (0, 0), (0, 0), (0, 0), (0, 0), (0, 0), (0, 0), (0, 0), (0, 0), (0, 0)]
theorem acc_eq : (Rows.laid_unicode_utf8_acceptRanges : DataW Unit) = .agg (accTab.map fun x => .agg [.lit (.int .u8 x.1), .lit (.int .u8 x.2)]) := rfl
theorem acc_at : ∀ i : Nat, i < 16 → (accTab.getD i (0, 0)) = (((Lib.accLo i : Nat) : Int), ((Lib.accHi i : Nat) : Int)) := by decide +kernel

theorem gH : Tryz.prog.globalNamed "roost/digest.firstState" = some 0 := by kernel_rfl
theorem gK : Tryz.prog.globalNamed "roost/digest.roundWords" = some 3 := by kernel_rfl
theorem gHType : (Tryz.prog.globals[0]?).map (·.type) = some 90 := by kernel_rfl
theorem gKType : (Tryz.prog.globals[3]?).map (·.type) = some 98 := by kernel_rfl
theorem cellsH : Tryz.prog.cellsOf 90 = 8 := by kernel_rfl
theorem cellsK : Tryz.prog.cellsOf 98 = 64 := by kernel_rfl
theorem cellsU32 : Tryz.prog.cellsOf 88 = 1 := by kernel_rfl
theorem h_eq : (Rows.laid_roost_digest_firstState : DataW Unit) = Lib.tabData .u32 h0s := rfl
theorem k_eq : (Rows.laid_roost_digest_roundWords : DataW Unit) = Lib.tabData .u32 kws := rfl

theorem gPw : Tryz.prog.globalNamed "internal/strconv.uint64pow10" = some 4 := by kernel_rfl
theorem gPwType : (Tryz.prog.globals[4]?).map (·.type) = some 161 := by kernel_rfl
theorem cellsPw : Tryz.prog.cellsOf 161 = 20 := by kernel_rfl
theorem cellsU64 : Tryz.prog.cellsOf 125 = 1 := by kernel_rfl
theorem pw_eq : (Rows.laid_internal_strconv_uint64pow10 : DataW Unit) = Lib.tabData .u64 Lib.pow10Tab := rfl

section
variable {enc : TypeId × Value → Unit} {W : World} {base : Nat} {sp : Nat → Bool} {held : Bool}
theorem tabs_in {cs1 cs2 : Array Value} {fuel1 fuel2 : Nat} {p1 p2 : List MemPlace} (hv1 : W.var? Tryz.prog "unicode/utf8.acceptRanges" = some cs1) (hd1 : DataW.trod enc Tryz.prog W base sp held fuel1 119 cs1.toList = some (Rows.laid_unicode_utf8_acceptRanges, p1))
    (hv2 : W.var? Tryz.prog "unicode/utf8.first" = some cs2) (hd2 : DataW.trod enc Tryz.prog W base sp held fuel2 116 cs2.toList = some (Rows.laid_unicode_utf8_first, p2)) : Lib.Utf8Tabs 1 2 W := by
  rw [first_eq] at hd2
  have hc2 := Lib.cells_of_tab Tryz.underlying116 Tryz.underlying5 cellsByte1 cellsFirst hd2
  rw [acc_eq] at hd1
  obtain ⟨ys, m, _, hx, _, hlen, hel⟩ := DataW.trod_array Tryz.underlying119 hd1
  have hxs : ys.map (·.1) = accTab.map fun x => (DataW.agg [.lit (.int .u8 x.1), .lit (.int .u8 x.2)] : DataW Unit) := by
    have := congrArg Prod.fst hx
    simpa using this.symm
  have hat : ∀ i, i < 16 → cs1.toList[i * 2]? = some (.int .u8 ((Lib.accLo i : Nat) : Int)) ∧ cs1.toList[i * 2 + 1]? = some (.int .u8 ((Lib.accHi i : Nat) : Int)) := by
    intro i hi
    have h1 := hel i hi
    rw [cellsAcc] at h1
    have hil : i < ys.length := by omega
    rw [List.getElem?_eq_getElem hil] at h1
    obtain ⟨y0, y1, k, hy, _, f0, f1⟩ := trod_struct2 Tryz.underlying118 h1
    simp only [cellsByte1, List.drop_zero] at f0 f1
    obtain ⟨z0, e0, e0', _⟩ := DataW.trod_int Tryz.underlying5 f0
    obtain ⟨z1, e1, e1', _⟩ := DataW.trod_int Tryz.underlying5 f1
    have h2 : (ys.map (·.1))[i]? = some (DataW.agg [.lit (.int .u8 z0), .lit (.int .u8 z1)] : DataW Unit) := by
      rw [List.getElem?_map, List.getElem?_eq_getElem hil, hy, e0', e1']; rfl
    rw [hxs, List.getElem?_map] at h2
    have h3 : accTab[i]? = some (accTab.getD i (0, 0)) := by
      have : i < accTab.length := hi
      rw [List.getD, List.getElem?_eq_getElem this]; rfl
    rw [h3, acc_at i hi] at h2
    simp only [Option.map_some, Option.some.injEq, DataW.agg.injEq, List.cons.injEq, DataW.lit.injEq, Lit.int.injEq, true_and, and_true] at h2
    rw [h2.1, h2.2]
    constructor
    · have := congrArg (·[0]?) e0
      simpa [List.getElem?_take, List.getElem?_drop] using this
    · have := congrArg (·[0]?) e1
      simpa [List.getElem?_take, List.getElem?_drop] using this
  refine ⟨fun c hc => ?_, fun i hi => ⟨?_, ?_⟩⟩
  · rw [World.var?_cell gUF hv2 c, ← Array.getElem?_toList, hc2, List.getElem?_map]
    have hlen : c < firstTab.length := by rw [first_len]; exact hc
    rw [List.getElem?_eq_getElem hlen]
    have := first_at c hc
    simp [List.getD, List.getElem?_eq_getElem hlen] at this
    simp [this]
  · rw [World.var?_cell gAcc hv1, ← Array.getElem?_toList, Nat.mul_comm]
    exact (hat i hi).1
  · rw [World.var?_cell gAcc hv1, ← Array.getElem?_toList, Nat.mul_comm]
    exact (hat i hi).2
theorem kt_in {cs1 cs2 : Array Value} {fuel1 fuel2 : Nat} {p1 p2 : List MemPlace} (hv1 : W.var? Tryz.prog "roost/digest.firstState" = some cs1) (hd1 : DataW.trod enc Tryz.prog W base sp held fuel1 90 cs1.toList = some (Rows.laid_roost_digest_firstState, p1))
    (hv2 : W.var? Tryz.prog "roost/digest.roundWords" = some cs2) (hd2 : DataW.trod enc Tryz.prog W base sp held fuel2 98 cs2.toList = some (Rows.laid_roost_digest_roundWords, p2)) : Kt W := by
  rw [h_eq] at hd1
  have hc1 := Lib.cells_of_tab Tryz.underlying90 Tryz.underlying88 cellsU32 cellsH hd1
  rw [k_eq] at hd2
  have hc2 := Lib.cells_of_tab Tryz.underlying98 Tryz.underlying88 cellsU32 cellsK hd2
  refine ⟨fun j hj => ?_, fun j hj => ?_⟩
  · rw [World.var?_cell gK hv2 j, ← Array.getElem?_toList, hc2, List.getElem?_map]
    have hlen : j < kws.length := hj
    rw [List.getElem?_eq_getElem hlen]
    simp [List.getD, List.getElem?_eq_getElem hlen]
  · rw [World.var?_cell gH hv1 j, ← Array.getElem?_toList, hc1, List.getElem?_map]
    have hlen : j < h0s.length := hj
    rw [List.getElem?_eq_getElem hlen]
    simp [List.getD, List.getElem?_eq_getElem hlen]
theorem pw_in {cs : Array Value} {fuel : Nat} {p : List MemPlace} (hv : W.var? Tryz.prog "internal/strconv.uint64pow10" = some cs) (hd : DataW.trod enc Tryz.prog W base sp held fuel 161 cs.toList = some (Rows.laid_internal_strconv_uint64pow10, p)) : Pw W := by
  rw [pw_eq] at hd
  have hc := Lib.cells_of_tab Tryz.underlying161 Tryz.underlying125 cellsU64 cellsPw hd
  unfold Pw Lib.TabIs
  rw [hv, ← hc]
end
theorem lz_of {W : World} (h : laidMetH Tryz.prog [("math/bits.deBruijn32tab", Rows.laid_math_bits_deBruijn32tab), ("math/bits.deBruijn64tab", Rows.laid_math_bits_deBruijn64tab), ("internal/strconv.uint64pow10", Rows.laid_internal_strconv_uint64pow10), ("unicode/utf8.acceptRanges", Rows.laid_unicode_utf8_acceptRanges), ("roost/digest.firstState", Rows.laid_roost_digest_firstState), ("roost/digest.roundWords", Rows.laid_roost_digest_roundWords), ("unicode/utf8.first", Rows.laid_unicode_utf8_first)] W) : Kt W ∧ Lib.Utf8Tabs 1 2 W ∧ Pw W := by
  have h' : laidMet Tryz.prog [("math/bits.deBruijn32tab", Rows.laid_math_bits_deBruijn32tab), ("math/bits.deBruijn64tab", Rows.laid_math_bits_deBruijn64tab), ("internal/strconv.uint64pow10", Rows.laid_internal_strconv_uint64pow10), ("unicode/utf8.acceptRanges", Rows.laid_unicode_utf8_acceptRanges), ("roost/digest.firstState", Rows.laid_roost_digest_firstState), ("roost/digest.roundWords", Rows.laid_roost_digest_roundWords), ("unicode/utf8.first", Rows.laid_unicode_utf8_first)] W := h
  obtain ⟨ps, ⟨g1, t1, cs1, fuel1, p1, q1, hg1, ht1, hv1, hd1, hr1, _⟩, _⟩ := h'
  obtain ⟨g2, t2, cs2, fuel2, p2, q2, hg2, ht2, hv2, hd2, hr2, _⟩ := hr1
  obtain ⟨g3, t3, cs3, fuel3, p3, q3, hg3, ht3, hv3, hd3, hr3, _⟩ := hr2
  obtain ⟨g4, t4, cs4, fuel4, p4, q4, hg4, ht4, hv4, hd4, hr4, _⟩ := hr3
  obtain ⟨g5, t5, cs5, fuel5, p5, q5, hg5, ht5, hv5, hd5, hr5, _⟩ := hr4
  obtain ⟨g6, t6, cs6, fuel6, p6, q6, hg6, ht6, hv6, hd6, hr6, _⟩ := hr5
  obtain ⟨g7, t7, cs7, fuel7, p7, q7, hg7, ht7, hv7, hd7, _, _⟩ := hr6
  obtain rfl := Option.some.inj (gPw.symm.trans hg3)
  obtain rfl := Option.some.inj (gPwType.symm.trans ht3)
  obtain rfl := Option.some.inj (gAcc.symm.trans hg4)
  obtain rfl := Option.some.inj (gAccType.symm.trans ht4)
  obtain rfl := Option.some.inj (gH.symm.trans hg5)
  obtain rfl := Option.some.inj (gHType.symm.trans ht5)
  obtain rfl := Option.some.inj (gK.symm.trans hg6)
  obtain rfl := Option.some.inj (gKType.symm.trans ht6)
  obtain rfl := Option.some.inj (gUF.symm.trans hg7)
  obtain rfl := Option.some.inj (gUFType.symm.trans ht7)
  exact ⟨kt_in hv5 hd5 hv6 hd6, tabs_in hv4 hd4 hv7 hd7, pw_in hv3 hd3⟩
theorem lp_of {W : World} (h : laidMetH Tryz.prog [("math/bits.deBruijn32tab", Rows.laid_math_bits_deBruijn32tab), ("math/bits.deBruijn64tab", Rows.laid_math_bits_deBruijn64tab), ("internal/strconv.uint64pow10", Rows.laid_internal_strconv_uint64pow10), ("unicode/utf8.acceptRanges", Rows.laid_unicode_utf8_acceptRanges), ("roost/digest.firstState", Rows.laid_roost_digest_firstState), ("roost/digest.roundWords", Rows.laid_roost_digest_roundWords), ("strconv.ErrRange", Rows.laid_strconv_ErrRange), ("strconv.ErrSyntax", Rows.laid_strconv_ErrSyntax), ("unicode/utf8.first", Rows.laid_unicode_utf8_first)] W) : Kt W ∧ Lib.Utf8Tabs 1 2 W ∧ Pw W := by
  have h' : laidMet Tryz.prog [("math/bits.deBruijn32tab", Rows.laid_math_bits_deBruijn32tab), ("math/bits.deBruijn64tab", Rows.laid_math_bits_deBruijn64tab), ("internal/strconv.uint64pow10", Rows.laid_internal_strconv_uint64pow10), ("unicode/utf8.acceptRanges", Rows.laid_unicode_utf8_acceptRanges), ("roost/digest.firstState", Rows.laid_roost_digest_firstState), ("roost/digest.roundWords", Rows.laid_roost_digest_roundWords), ("strconv.ErrRange", Rows.laid_strconv_ErrRange), ("strconv.ErrSyntax", Rows.laid_strconv_ErrSyntax), ("unicode/utf8.first", Rows.laid_unicode_utf8_first)] W := h
  obtain ⟨ps, ⟨g1, t1, cs1, fuel1, p1, q1, hg1, ht1, hv1, hd1, hr1, _⟩, _⟩ := h'
  obtain ⟨g2, t2, cs2, fuel2, p2, q2, hg2, ht2, hv2, hd2, hr2, _⟩ := hr1
  obtain ⟨g3, t3, cs3, fuel3, p3, q3, hg3, ht3, hv3, hd3, hr3, _⟩ := hr2
  obtain ⟨g4, t4, cs4, fuel4, p4, q4, hg4, ht4, hv4, hd4, hr4, _⟩ := hr3
  obtain ⟨g5, t5, cs5, fuel5, p5, q5, hg5, ht5, hv5, hd5, hr5, _⟩ := hr4
  obtain ⟨g6, t6, cs6, fuel6, p6, q6, hg6, ht6, hv6, hd6, hr6, _⟩ := hr5
  obtain ⟨g7, t7, cs7, fuel7, p7, q7, hg7, ht7, hv7, hd7, hr7, _⟩ := hr6
  obtain ⟨g8, t8, cs8, fuel8, p8, q8, hg8, ht8, hv8, hd8, hr8, _⟩ := hr7
  obtain ⟨g9, t9, cs9, fuel9, p9, q9, hg9, ht9, hv9, hd9, _, _⟩ := hr8
  obtain rfl := Option.some.inj (gPw.symm.trans hg3)
  obtain rfl := Option.some.inj (gPwType.symm.trans ht3)
  obtain rfl := Option.some.inj (gAcc.symm.trans hg4)
  obtain rfl := Option.some.inj (gAccType.symm.trans ht4)
  obtain rfl := Option.some.inj (gH.symm.trans hg5)
  obtain rfl := Option.some.inj (gHType.symm.trans ht5)
  obtain rfl := Option.some.inj (gK.symm.trans hg6)
  obtain rfl := Option.some.inj (gKType.symm.trans ht6)
  obtain rfl := Option.some.inj (gUF.symm.trans hg9)
  obtain rfl := Option.some.inj (gUFType.symm.trans ht9)
  exact ⟨kt_in hv5 hd5 hv6 hd6, tabs_in hv4 hd4 hv9 hd9, pw_in hv3 hd3⟩

/-- internal/bytealg.MaxLen holds some number: out of the world's shape. -/
theorem mx_of {W : World} (h : W.ShapedOpen Tryz.prog) : Mx W :=
  cell_of_shapedOpen_int (g := 5) (t := 3) (zero := #[.int .i64 0]) h (of_decide_eq_true (by kernel_rfl)) (by kernel_rfl) rfl (by kernel_rfl) (by kernel_rfl) Tryz.underlying3

theorem cellsStr : Tryz.prog.cellsOf 9 = 1 := by kernel_rfl
theorem cellsBytes : Tryz.prog.cellsOf 22 = 1 := by kernel_rfl
theorem cellsInt : Tryz.prog.cellsOf 3 = 1 := by kernel_rfl
theorem cellsTalk : Tryz.prog.cellsOf 24 = 6 := by kernel_rfl
theorem arr6 {α : Type} {cs : Array α} (h : cs.size = 6) : ∃ c0 c1 c2 c3 c4 c5, cs = #[c0, c1, c2, c3, c4, c5] := by
  obtain ⟨l⟩ := cs
  match l, h with
  | [c0, c1, c2, c3, c4, c5], _ => exact ⟨c0, c1, c2, c3, c4, c5, rfl⟩
theorem rd_of_f {H : Type} {enc : TypeId × Value → H} {W : World} {n : Nat} {c : Value} {y : DataW H × List MemPlace} (h : DataW.trod enc Tryz.prog W 0 (fun _ => true) true n 22 [c] = some y) : ∃ a k m zs, c = .slice a k m ∧ Rd W a k m zs := by
  rcases open_ints Tryz.underlying22 Tryz.underlying5 (by kernel_rfl) h with ⟨hcs, _⟩ | ⟨x, l, cc, zs, hcs, _, hl, hm, hz, _, hcell, hwz⟩
  · simp only [List.cons.injEq, and_true] at hcs
    exact ⟨none, 0, 0, [], hcs, rd_nilK W⟩
  · simp only [List.cons.injEq, and_true] at hcs
    have hz' : zs.length = cc := by simpa using hz
    refine ⟨some x, l, cc, zs.take l, hcs, by rw [List.length_take]; omega, hl, hm, (fun h => by cases h), fun y hy => ?_, fun ad had j hj => ?_⟩
    · have := bounds_u8 (hwz y (List.mem_of_mem_take hy)); omega
    · cases had
      rw [hcell j (by omega)]
      simp [List.getD, hj]
set_option maxRecDepth 100000 in
theorem open_talk {H : Type} {enc : TypeId × Value → H} {W : World} {b0 : Nat} {v : Value} {d : DataW H} {p : List MemPlace}
    (hv : Value.okWide Tryz.prog W .any b0 24 v) (h : DataW.Trod enc Tryz.prog W 0 (fun _ => true) true 24 v d p) :
    ∃ (P U O T : Tx) (a : Option Addr) (n c : Nat) (ss : List Int) (N : Int), v = .agg #[.string ⟨P.toArray⟩, .string ⟨U.toArray⟩, .string ⟨O.toArray⟩, .string ⟨T.toArray⟩, .slice a n c, .int .i64 N] ∧ P.length ≤ 9223372036854775807 ∧ U.length ≤ 9223372036854775807 ∧ O.length ≤ 9223372036854775807 ∧ T.length ≤ 9223372036854775807 ∧ Rd W a n c ss ∧ (Lit.int .i64 N).wf = true := by
  obtain ⟨cs, rfl, hsz⟩ := okWide_struct Tryz.underlying24 hv
  obtain ⟨c0, c1, c2, c3, c4, c5, rfl⟩ := arr6 (hsz.trans cellsTalk)
  obtain ⟨fuel, hf⟩ := h
  obtain ⟨ys, n, _, hx, hl, hlen, hfs⟩ := DataW.trod_struct Tryz.underlying24 hf
  match ys, hlen with
  | [y0, y1, y2, y3, y4, y5], _ =>
    have f0 : DataW.trod enc Tryz.prog W 0 (fun _ => true) true n 9 [c0] = some y0 := by simpa [Value.cells, cellsStr] using hfs 0 _ rfl
    have f1 : DataW.trod enc Tryz.prog W 0 (fun _ => true) true n 9 [c1] = some y1 := by simpa [Value.cells, cellsStr] using hfs 1 _ rfl
    have f2 : DataW.trod enc Tryz.prog W 0 (fun _ => true) true n 9 [c2] = some y2 := by simpa [Value.cells, cellsStr] using hfs 2 _ rfl
    have f3 : DataW.trod enc Tryz.prog W 0 (fun _ => true) true n 9 [c3] = some y3 := by simpa [Value.cells, cellsStr] using hfs 3 _ rfl
    have f4 : DataW.trod enc Tryz.prog W 0 (fun _ => true) true n 22 [c4] = some y4 := by simpa [Value.cells, cellsBytes] using hfs 4 _ rfl
    have f5 : DataW.trod enc Tryz.prog W 0 (fun _ => true) true n 3 [c5] = some y5 := by simpa [Value.cells, cellsInt] using hfs 5 _ rfl
    obtain ⟨S0, e0, _, w0⟩ := DataW.trod_string Tryz.underlying9 f0
    obtain ⟨S1, e1, _, w1⟩ := DataW.trod_string Tryz.underlying9 f1
    obtain ⟨S2, e2, _, w2⟩ := DataW.trod_string Tryz.underlying9 f2
    obtain ⟨S3, e3, _, w3⟩ := DataW.trod_string Tryz.underlying9 f3
    obtain ⟨a, k, m, zs, e4, hR⟩ := rd_of_f f4
    obtain ⟨N, e5, _, w5⟩ := DataW.trod_int Tryz.underlying3 f5
    simp only [List.cons.injEq, and_true] at e0 e1 e2 e3 e5
    subst e0 e1 e2 e3 e4 e5
    have hb : ∀ S : ByteArray, S.size ≤ maxLen → S.data.toList.length ≤ 9223372036854775807 := fun S hS => by
      unfold maxLen at hS
      have : S.data.toList.length = S.size := by simp
      omega
    refine ⟨S0.data.toList, S1.data.toList, S2.data.toList, S3.data.toList, a, k, m, zs, N, ?_, hb _ w0, hb _ w1, hb _ w2, hb _ w3, hR, w5⟩
    cases S0; cases S1; cases S2; cases S3
    simp
end Go.Proofs.YtmilcknboaefkaaGreatDoor

/- scram's reader of a challenge. -/
namespace Go.Proofs.YtmilcknboaefkaaGreatDoor
open Go.RowKit Go.Shelf

/-- What strconv's two errors hold. -/
def Er (w : World) : Prop := (∃ ev, w.cell? ⟨6, 0, none⟩ = some ev ∧ (ev = .nilIface ∨ ∃ te pe, ev = .iface te pe)) ∧ ∃ ev, w.cell? ⟨7, 0, none⟩ = some ev ∧ (ev = .nilIface ∨ ∃ te pe, ev = .iface te pe)
theorem Er.keep {S : Nat → Prop} {w w' : World} (h : Er w) (hk : Keep S w w') (hs : ∀ k, S k → 7 < k) : Er w' := by
  obtain ⟨⟨e1, h1, k1⟩, e2, h2, k2⟩ := h
  exact ⟨⟨e1, hk.cell h1 (fun s => by have := hs _ s; revert this; decide), k1⟩, e2, hk.cell h2 (fun s => by have := hs _ s; revert this; decide), k2⟩
theorem Er.below {w w' : World} (h : Er w) (hb : Below w.heap.size w w') : Er w' := by
  obtain ⟨⟨e1, h1, k1⟩, e2, h2, k2⟩ := h
  exact ⟨⟨e1, (hb.cell (p := ⟨6, 0, none⟩) (World.block_lt_of_cell? w _ h1)).trans h1, k1⟩, e2, (hb.cell (p := ⟨7, 0, none⟩) (World.block_lt_of_cell? w _ h2)).trans h2, k2⟩
theorem Er.lt {w : World} (h : Er w) : 7 < w.heap.size := by obtain ⟨_, e2, h2, _⟩ := h; exact World.block_lt_of_cell? w _ h2

theorem bytesWorld_bel (w : World) (t : TypeId) (s : ByteArray) : Below w.heap.size w (Lib.bytesWorld w t s) := Lib.bytesWorld_below _ _ _

theorem atoi_ok (l : Tx) (v : Int) (h : Lib.atoiAll l = .ok v) (w : World) (hl : l.length ≤ 1000000) :
    Calls Tryz.prog 87 #[.string ⟨l.toArray⟩] w fun e w' => e = .returned (.tuple #[.int .i64 v, .nilIface]) ∧ Below w.heap.size w w' := by
  refine (Any.strconv_Atoi_ok Tryz.laysC172 ⟨l.toArray⟩ (by rw [size_tx]; omega) v h w).mono ?_
  rintro e w' ⟨rfl, rfl | ⟨t, rfl⟩⟩
  · exact ⟨rfl, Below.refl _ _⟩
  · exact ⟨rfl, Lib.bytesWorld_below _ _ _⟩
theorem atoi_no (l : Tx) (h : ∀ v, Lib.atoiAll l ≠ .ok v) (w : World) (hl : l.length ≤ 1000000) (hE : Er w) :
    Calls Tryz.prog 87 #[.string ⟨l.toArray⟩] w fun e w' => (∃ x te pe, e = .returned (.tuple #[.int .i64 x, .iface te pe])) ∧ Below w.heap.size w w' := by
  obtain ⟨⟨e1, h1, k1⟩, e2, h2, k2⟩ := hE
  cases ha : Lib.atoiAll l with
  | ok v => exact absurd ha (h v)
  | «syntax» =>
    refine (Any.strconv_Atoi_syntax Tryz.laysC172 ⟨l.toArray⟩ (by rw [size_tx]; omega) ha e1 w h1 k1).mono ?_
    rintro e w' ⟨N, rfl, _, _, hb⟩
    exact ⟨⟨_, _, _, rfl⟩, hb⟩
  | range =>
    refine (Any.strconv_Atoi_range Tryz.laysC172 ⟨l.toArray⟩ (by rw [size_tx]; omega) ha e2 w h2 k2).mono ?_
    rintro e w' ⟨N, rfl, _, _, hb⟩
    exact ⟨⟨_, _, _, rfl⟩, hb⟩
theorem itoa_all (v : Int) (h0 : -9223372036854775808 ≤ v) (h1 : v ≤ 9223372036854775807) (w : World) (hP : Pw w) : Calls Tryz.prog 32 #[.int .i64 v] w fun e w' => e = .returned (.string ⟨(Lib.itoa v).toArray⟩) ∧ Below w.heap.size w w' := by
  refine (Any.strconv_Itoa Tryz.laysM171 v (by omega) (by omega) w hP).mono ?_
  rintro e w' ⟨rfl, k, os, rfl⟩
  refine ⟨rfl, rfl, rfl, rfl, ?_, fun j hj => ?_⟩
  · show w.heap.size ≤ (w.heap ++ os).size
    rw [Array.size_append]; omega
  · show (w.heap ++ os)[j]? = w.heap[j]?
    exact Array.getElem?_append_left hj
theorem Pw.keep {S : Nat → Prop} {w w' : World} (h : Pw w) (hk : Keep S w w') (hs : ¬ S 4) : Pw w' := by
  unfold Pw Lib.TabIs World.var? at h ⊢
  rw [show Tryz.prog.globalNamed "internal/strconv.uint64pow10" = some 4 from by kernel_rfl] at h ⊢
  simp only [Option.bind_some] at h ⊢
  have hlt : 4 < w.heap.size := by
    rcases Nat.lt_or_ge 4 w.heap.size with h' | h'
    · exact h'
    · rw [Array.getElem?_eq_none h'] at h; cases h
  rw [hk.block 4 hlt hs]
  exact h

/-- A number of at most four decimal digits, written as it is written. -/
def digO (l : Tx) : Option Nat := match Lib.atoiAll l with
  | .ok v => if 0 ≤ v ∧ l.length ≤ 4 ∧ Lib.itoa v = l then some v.toNat else none
  | _ => none

theorem digits_two (B : Nat) (L : Tx) (w : World) (hA : RAt w B L) (hL : L.length ≤ 1000000) (hM : Mx w) (hE : Er w) (hP : Pw w) (hB : 7 < B) :
    Calls Tryz.prog 63 #[.pointer (some ⟨B, 0, none⟩)] w fun e w' => ((∃ N, digO (prt L) = some N ∧ e = .returned (.int .i64 (N : Int)) ∧ RAt w' B (rst L)) ∨ (digO (prt L) = none ∧ e = .panicked (gaveUp 2))) ∧ Keep (fun j => j = B) w w' := by
  have cP := part_any B L w hA hL hM
  have hle : (prt L).length ≤ L.length := by unfold prt; rw [List.length_take]; omega
  have hlp : (prt L).length ≤ 1000000 := by omega
  have hEk : ∀ {u : World}, Keep (fun j => j = B) w u → Er u := fun hk => hE.keep hk (fun k e => by omega)
  have hPk : ∀ {u : World}, Keep (fun j => j = B) w u → Pw u := fun hk => hP.keep hk (fun e => by have : 4 ≤ 7 := (by decide); omega)
  have HEk : Hid _ := @hEk
  have HPk : Hid _ := @hPk
  have hz := size_tx (prt L)
  clear hEk hPk hle hA hE hP hM hB
  obtain ⟨n, Hn⟩ : ∃ n, Hid ((prt L).length = n) := ⟨_, rfl⟩
  rw [Hn.out] at hz hlp
  by_cases hok : ∃ v, Lib.atoiAll (prt L) = .ok v
  · obtain ⟨v, hv⟩ := hok
    have hD : digO (prt L) = if 0 ≤ v ∧ (prt L).length ≤ 4 ∧ Lib.itoa v = prt L then some v.toNat else none := by unfold digO; rw [hv]
    obtain ⟨vb0, vb1⟩ := Lib.atoiAll_bounds hv
    have cA := fun u => atoi_ok (prt L) v hv u (by rw [Hn.out]; exact hlp)
    have hI := tx_eq (Lib.itoa v) (prt L)
    obtain ⟨I, HI⟩ : ∃ I, Hid ((⟨(Lib.itoa v).toArray⟩ : ByteArray) = I) := ⟨_, rfl⟩
    have cI := fun u (hk : Keep (fun j => j = B) w u) => itoa_all v vb0 vb1 u (HPk.out hk)
    rw [HI.out] at hI
    simp only [HI.out] at cI
    rw [Hn.out] at hD
    generalize prt L = p at *
    obtain ⟨T, HT⟩ : ∃ T, Hid ((⟨p.toArray⟩ : ByteArray) = T) := ⟨_, rfl⟩
    rw [HT.out] at cP hz hI
    simp only [HT.out] at cA
    clear hv
    by_cases h0 : 0 ≤ v
    · have h0' : ¬ v < 0 := by omega
      by_cases h4 : n ≤ 4
      · have h4' : ¬ (4 : Int) < (n : Int) := by omega
        by_cases h5 : Lib.itoa v = p
        · rw [if_pos ⟨h0, h4, h5⟩] at hD
          rw [decide_eq_true h5] at hI
          have hvN : Hid (v = ((v.toNat : Nat) : Int)) := by show _ = _; omega
          have HD : Hid (digO p = some v.toNat) := hD
          clear hD h5
          go_enter Tryz.func63, Tryz.ntmps63
          go_wp2_with (first
            | (go_at_call 85; refine cP.mono ?_; rintro e w1 ⟨rfl, hr1, hk1⟩)
            | (go_at_call 87; refine (cA _).mono ?_; rintro e w2 ⟨rfl, hb2⟩; have hk2 := hk1.trans (Keep.ofBelow hb2))
            | (go_at_call 32; refine (cI _ hk2).mono ?_; rintro e w3 ⟨rfl, hb3⟩))
          go_ret
          exact ⟨.inl ⟨v.toNat, HD.out, by rw [← hvN.out]; rfl, (hr1.below hb2).below hb3⟩, hk2.trans (Keep.ofBelow hb3)⟩
        · rw [if_neg (fun h => h5 h.2.2)] at hD
          rw [decide_eq_false h5] at hI
          have HD : Hid (digO p = none) := hD
          clear hD h5
          go_enter Tryz.func63, Tryz.ntmps63
          go_wp2_with (first
            | (go_at_call 85; refine cP.mono ?_; rintro e w1 ⟨rfl, hr1, hk1⟩)
            | (go_at_call 87; refine (cA _).mono ?_; rintro e w2 ⟨rfl, hb2⟩; have hk2 := hk1.trans (Keep.ofBelow hb2))
            | (go_at_call 32; refine (cI _ hk2).mono ?_; rintro e w3 ⟨rfl, hb3⟩)
            | (go_at_call 78; refine (giveUp_any _ _).mono ?_; rintro e w4 ⟨rfl, rfl⟩))
          exact ⟨rfl, .inr ⟨HD.out, rfl⟩, hk2.trans (Keep.ofBelow hb3)⟩
      · have h4' : (4 : Int) < (n : Int) := by omega
        rw [if_neg (fun h => h4 h.2.1)] at hD
        have HD : Hid (digO p = none) := hD
        clear hD h4
        go_enter Tryz.func63, Tryz.ntmps63
        go_wp2_with (first
          | (go_at_call 85; refine cP.mono ?_; rintro e w1 ⟨rfl, hr1, hk1⟩)
          | (go_at_call 87; refine (cA _).mono ?_; rintro e w2 ⟨rfl, hb2⟩; have hk2 := hk1.trans (Keep.ofBelow hb2))
          | (go_at_call 78; refine (giveUp_any _ _).mono ?_; rintro e w4 ⟨rfl, rfl⟩))
        exact ⟨rfl, .inr ⟨HD.out, rfl⟩, hk2⟩
    · have h0' : v < 0 := by omega
      rw [if_neg (fun h => h0 h.1)] at hD
      have HD : Hid (digO p = none) := hD
      clear hD h0
      go_enter Tryz.func63, Tryz.ntmps63
      go_wp2_with (first
        | (go_at_call 85; refine cP.mono ?_; rintro e w1 ⟨rfl, hr1, hk1⟩)
        | (go_at_call 87; refine (cA _).mono ?_; rintro e w2 ⟨rfl, hb2⟩; have hk2 := hk1.trans (Keep.ofBelow hb2))
        | (go_at_call 78; refine (giveUp_any _ _).mono ?_; rintro e w4 ⟨rfl, rfl⟩))
      exact ⟨rfl, .inr ⟨HD.out, rfl⟩, hk2⟩
  · have hno : ∀ v, Lib.atoiAll (prt L) ≠ .ok v := fun v h => hok ⟨v, h⟩
    have HD : Hid (digO (prt L) = none) := by
      show _ = _
      unfold digO
      cases ha : Lib.atoiAll (prt L) with
      | ok v => exact absurd ha (hno v)
      | «syntax» => rfl
      | range => rfl
    have cA := fun u (hk : Keep (fun j => j = B) w u) => atoi_no (prt L) hno u (by rw [Hn.out]; exact hlp) (HEk.out hk)
    generalize prt L = p at *
    clear hno hok
    go_enter Tryz.func63, Tryz.ntmps63
    go_wp2_with (first
      | (go_at_call 85; refine cP.mono ?_; rintro e w1 ⟨rfl, hr1, hk1⟩)
      | (go_at_call 87; refine (cA _ hk1).mono ?_; rintro e w2 ⟨⟨x, te, pe, rfl⟩, hb2⟩; have hk2 := hk1.trans (Keep.ofBelow hb2))
      | (go_at_call 78; refine (giveUp_any _ _).mono ?_; rintro e w4 ⟨rfl, rfl⟩))
    exact ⟨rfl, .inr ⟨HD.out, rfl⟩, hk2⟩

/-! ### the challenge's parts -/
structure QP where
  no : Tx
  sa : List Int
  n : Nat
def qcells (q : QP) (v : Value) : Array Value := #[.string ⟨q.no.toArray⟩, v, .int .i64 (q.n : Int)]
def noQP : QP := ⟨[], [], 0⟩
def quest5 (n : Tx) (X : List Int) (r : Tx) : Option QP := (digO (prt r)).bind fun N => if rst r = [] then some ⟨n, X, N⟩ else none
def quest4 (n : Tx) (X : List Int) (r : Tx) : Option QP := (sgn [44, 105, 61] r).bind fun r3 => quest5 n X r3
def quest3 (n r : Tx) : Option QP := (dec (il (prt r))).bind fun X => quest4 n X (rst r)
def quest2 (n r : Tx) : Option QP := (sgn [44, 115, 61] r).bind fun r2 => quest3 n r2
def quest1 (r : Tx) : Option QP := if nonceB 256 (prt r) = true then quest2 (prt r) (rst r) else none
def questO (L : Tx) : Option QP := (sgn [114, 61] L).bind fun r => quest1 r
def questE (L : Tx) : QP × Nat := match questO L with
  | some q => (q, 0)
  | none => (noQP, 2)
def GaveQ (w : World) (p : QP × Nat) (e : Ending) (w' : World) : Prop := (p.2 = 0 ∧ ∃ v, e = .returned (.agg (qcells p.1 v)) ∧ New w w' v p.1.sa) ∨ (p.2 ≠ 0 ∧ e = .panicked (gaveUp p.2))

def QAt (w : World) (R : Nat) (a b c : Value) : Prop := w.heap[R]? = some (.cells #[a, b, c] 72 (0, 0))
theorem QAt.lt {w : World} {R : Nat} {a b c : Value} (h : QAt w R a b c) : R < w.heap.size := (Array.getElem?_eq_some_iff.1 h).1
theorem QAt.keep {S : Nat → Prop} {w w' : World} {R : Nat} {a b c : Value} (h : QAt w R a b c) (hk : Keep S w w') (hs : ¬ S R) : QAt w' R a b c := (hk.block R h.lt hs).trans h
theorem QAt.below {w w' : World} {R : Nat} {a b c : Value} (h : QAt w R a b c) (hb : Below w.heap.size w w') : QAt w' R a b c := (hb.block R h.lt).trans h
theorem QAt.s0 {w : World} {R : Nat} {a b c : Value} (h : QAt w R a b c) (v : Value) : QAt (w.setCell ⟨R, 0, none⟩ v) R v b c := by unfold QAt at h ⊢; simp [World.setCell, Array.getElem?_modify, h]
theorem QAt.s1 {w : World} {R : Nat} {a b c : Value} (h : QAt w R a b c) (v : Value) : QAt (w.setCell ⟨R, 1, none⟩ v) R a v c := by unfold QAt at h ⊢; simp [World.setCell, Array.getElem?_modify, h]
theorem QAt.s2 {w : World} {R : Nat} {a b c : Value} (h : QAt w R a b c) (v : Value) : QAt (w.setCell ⟨R, 2, none⟩ v) R a b v := by unfold QAt at h ⊢; simp [World.setCell, Array.getElem?_modify, h]
theorem QAt.c0 {w : World} {R : Nat} {a b c : Value} (h : QAt w R a b c) : w.cell? ⟨R, 0, none⟩ = some a := by unfold QAt at h; simp [World.cell?, h]
theorem QAt.c1 {w : World} {R : Nat} {a b c : Value} (h : QAt w R a b c) : w.cell? ⟨R, 1, none⟩ = some b := by unfold QAt at h; simp [World.cell?, h]
theorem QAt.c2 {w : World} {R : Nat} {a b c : Value} (h : QAt w R a b c) : w.cell? ⟨R, 2, none⟩ = some c := by unfold QAt at h; simp [World.cell?, h]
theorem QAt.fz {w : World} {R : Nat} {a b c : Value} (h : QAt w R a b c) (i : Nat) : w.frozen? ⟨R, i, none⟩ = false := by unfold QAt at h; simp [World.frozen?, h]

set_option maxHeartbeats 4000000 in
set_option maxRecDepth 100000 in
theorem rquestion_any (B : Nat) (L : Tx) (w : World) (hA : RAt w B L) (hL : L.length ≤ 1000000) (hM : Mx w) (hE : Er w) (hP : Pw w) (hMB : 7 < B) :
    Calls Tryz.prog 37 #[.pointer (some ⟨B, 0, none⟩)] w fun e w' => GaveQ w (questE L) e w' ∧ Keep (fun j => j = B) w w' := by
  have hBl := hA.lt
  have hw0 : Keep (fun j => j = B) w (w.alloc (.cells #[.string ⟨#[]⟩, .slice none 0 0, .int .i64 0] 72)) := (Keep.refl _ w).alloc _
  have hF0 : QAt (w.alloc (.cells #[.string ⟨#[]⟩, .slice none 0 0, .int .i64 0] 72)) w.heap.size (.string ⟨#[]⟩) (.slice none 0 0) (.int .i64 0) := heap_alloc_new w _
  have hr0 : RAt (w.alloc (.cells #[.string ⟨#[]⟩, .slice none 0 0, .int .i64 0] 72)) B L := hA.below ((Below.refl _ w).alloc (Nat.le_refl _) _)
  have HM : Hid (∀ w', Keep (fun j => j = B) w w' → Mx w') := fun w' hk => hM.keep hk (fun e => by have : 5 ≤ 7 := (by decide); omega)
  have HE : Hid (∀ w', Keep (fun j => j = B) w w' → Er w') := fun w' hk => hE.keep hk (fun k e => by omega)
  have HP : Hid (∀ w', Keep (fun j => j = B) w w' → Pw w') := fun w' hk => hP.keep hk (fun e => by have : 4 ≤ 7 := (by decide); omega)
  have hRB : ¬ w.heap.size = B := by omega
  have hBR : B ≠ w.heap.size := by omega
  have hST : ∀ {u : World} {i : Nat} {v : Value}, Keep (fun j => j = B) w u → Keep (fun j => j = B) w (u.setCell ⟨w.heap.size, i, none⟩ v) := fun hk => hk.setNew (Nat.le_refl _) _
  have HST : Hid _ := @hST
  have HMB : Hid (7 < B) := hMB
  clear hST hM hE hP hMB
  have HN : Hid (questO L = none → questE L = (noQP, 2)) := fun h => by unfold questE; rw [h]
  have HS : Hid (∀ f, questO L = some f → questE L = (f, 0)) := fun f h => by unfold questE; rw [h]
  have hsz0 : (w.alloc (.cells #[.string ⟨#[]⟩, .slice none 0 0, .int .i64 0] 72)).heap.size = w.heap.size + 1 := by simp
  go_enter Tryz.func37, Tryz.ntmps37
  go_wp2_with (go_at_call 60; refine (sign_two B L [114, 61] _ hr0).mono ?_)
  rintro e w2 ⟨hor, hk2⟩
  have hF2 := hF0.keep hk2 hRB
  have hk2' : Keep (fun j => j = B) w w2 := hw0.trans hk2
  have hs2 : w.heap.size + 1 ≤ w2.heap.size := by have := hk2.size; omega
  clear hF0 hr0 hA hw0 hk2 hsz0
  rcases hor with ⟨r1, hh, rfl, hr2⟩ | ⟨hh, rfl⟩
  rotate_left
  · exact ⟨rfl, .inr (by rw [HN.out (by unfold questO; rw [hh]; rfl)]; exact ⟨by decide, rfl⟩), hk2'⟩
  have hl1 := sgn_len hh
  have HX1 : Hid (questO L = quest1 r1) := by show _ = _; unfold questO; rw [hh]; rfl
  clear hh
  have cN := nonce_two B r1 256 w2 hr2 (by omega) (by omega) (HM.out _ hk2')
  go_wp2_with (go_at_call 61; refine cN.mono ?_)
  rintro e w3 ⟨hor, hk3⟩
  have hF3 := hF2.keep hk3 hRB
  have hk3' := hk2'.trans hk3
  have hs3 : w.heap.size + 1 ≤ w3.heap.size := by have := hk3.size; omega
  clear hF2 hk3 hr2 hk2' cN
  rcases hor with ⟨hh, rfl, hr3⟩ | ⟨hh, rfl⟩
  rotate_left
  · exact ⟨rfl, .inr (by rw [HN.out (by rw [HX1.out]; unfold quest1; rw [hh]; rfl)]; exact ⟨by decide, rfl⟩), hk3'⟩
  have HX2 : Hid (questO L = quest2 (prt r1) (rst r1)) := by show _ = _; rw [HX1.out]; unfold quest1; rw [if_pos hh]
  have hl2 := rst_len r1
  clear hh HX1
  have f3 := hF3.fz 0
  have q3 := hF3.c0
  have hr4 := hr3.other (i := 0) hBR (.string ⟨(prt r1).toArray⟩)
  have hF4 := hF3.s0 (.string ⟨(prt r1).toArray⟩)
  have hk4 := HST.out (i := 0) (v := .string ⟨(prt r1).toArray⟩) hk3'
  have hs4 : w.heap.size + 1 ≤ (w3.setCell ⟨w.heap.size, 0, none⟩ (.string ⟨(prt r1).toArray⟩)).heap.size := by simpa [World.setCell] using hs3
  clear hF3 hr3 hk3' hs3
  go_wp2_with (go_at_call 60; refine (sign_two B (rst r1) [44, 115, 61] _ hr4).mono ?_)
  rintro e w5 ⟨hor, hk5⟩
  have hF5 := hF4.keep hk5 hRB
  have hk5' := hk4.trans hk5
  have hs5 : w.heap.size + 1 ≤ w5.heap.size := by have := hk5.size; omega
  clear hF4 hk5 hr4 hk4 f3 q3 hs4
  rcases hor with ⟨r2, hh, rfl, hr5⟩ | ⟨hh, rfl⟩
  rotate_left
  · exact ⟨rfl, .inr (by rw [HN.out (by rw [HX2.out]; unfold quest2; rw [hh]; rfl)]; exact ⟨by decide, rfl⟩), hk5'⟩
  have hl3 := sgn_len hh
  have HX3 : Hid (questO L = quest3 (prt r1) r2) := by show _ = _; rw [HX2.out]; unfold quest2; rw [hh]; rfl
  clear hh HX2
  go_wp2_with (go_at_call 62; refine (bytes_two B r2 _ hr5 (by omega) (HM.out _ hk5')).mono ?_)
  rintro e w6 ⟨hor, hk6⟩
  have hF6 := hF5.keep hk6 hRB
  have hk6' := hk5'.trans hk6
  clear hF5 hk6 hr5 hk5'
  rcases hor with ⟨X, a1, c1, hh, rfl, hr6, hn6⟩ | ⟨hh, rfl⟩
  rotate_left
  · exact ⟨rfl, .inr (by rw [HN.out (by rw [HX3.out]; unfold quest3; rw [hh]; rfl)]; exact ⟨by decide, rfl⟩), hk6'⟩
  have HX4 : Hid (questO L = quest4 (prt r1) X (rst r2)) := by show _ = _; rw [HX3.out]; unfold quest3; rw [hh]; rfl
  have hl4 := rst_len r2
  clear hh HX3
  have hR5 : w.heap.size < w5.heap.size := by omega
  have f6 := hF6.fz 1
  have q6 := hF6.c1
  have hr7 := hr6.other (i := 1) hBR (.slice a1 X.length c1)
  have hF7 := hF6.s1 (.slice a1 X.length c1)
  have hk7 := HST.out (i := 1) (v := .slice a1 X.length c1) hk6'
  have hn7 := hn6.set (i := 1) hR5 (.slice a1 X.length c1)
  obtain ⟨m1, Hm1⟩ : ∃ m, Hid (X.length = m) := ⟨_, rfl⟩
  rw [Hm1.out] at hr7 hF7 hk7 hn7 ⊢
  have hB5 : B < w5.heap.size := by omega
  clear hF6 hr6 hk6' hn6
  go_wp2_with (go_at_call 60; refine (sign_two B (rst r2) [44, 105, 61] _ hr7).mono ?_)
  rintro e w8 ⟨hor, hk8⟩
  have hF8 := hF7.keep hk8 hRB
  have hk8' := hk7.trans hk8
  have hn8 := hn7.keep hk8 (fun k e => by omega)
  clear hF7 hk8 hr7 hk7 hn7 f6 q6
  rcases hor with ⟨r3, hh, rfl, hr8⟩ | ⟨hh, rfl⟩
  rotate_left
  · exact ⟨rfl, .inr (by rw [HN.out (by rw [HX4.out]; unfold quest4; rw [hh]; rfl)]; exact ⟨by decide, rfl⟩), hk8'⟩
  have hl5 := sgn_len hh
  have HX5 : Hid (questO L = quest5 (prt r1) X r3) := by show _ = _; rw [HX4.out]; unfold quest4; rw [hh]; rfl
  clear hh HX4
  go_wp2_with (go_at_call 63; refine (digits_two B r3 _ hr8 (by omega) (HM.out _ hk8') (HE.out _ hk8') (HP.out _ hk8') HMB.out).mono ?_)
  rintro e w9 ⟨hor, hk9⟩
  have hF9 := hF8.keep hk9 hRB
  have hk9' := hk8'.trans hk9
  have hn9 := hn8.keep hk9 (fun k e => by omega)
  clear hF8 hk9 hr8 hk8' hn8
  rcases hor with ⟨N, hh, rfl, hr9⟩ | ⟨hh, rfl⟩
  rotate_left
  · exact ⟨rfl, .inr (by rw [HN.out (by rw [HX5.out]; unfold quest5; rw [hh]; rfl)]; exact ⟨by decide, rfl⟩), hk9'⟩
  have HX6 : Hid (questO L = if rst r3 = [] then some ⟨prt r1, X, N⟩ else none) := by show _ = _; rw [HX5.out]; unfold quest5; rw [hh]; rfl
  clear hh HX5
  have f9 := hF9.fz 2
  have q9 := hF9.c2
  have hr10 := hr9.other (i := 2) hBR (.int .i64 (N : Int))
  have hF10 := hF9.s2 (.int .i64 (N : Int))
  have hk10 := HST.out (i := 2) (v := .int .i64 (N : Int)) hk9'
  have hn10 := hn9.set (i := 2) hR5 (.int .i64 (N : Int))
  have c0 := hF10.c0
  have c1' := hF10.c1
  have c2' := hF10.c2
  have g0 := hF10.fz 0
  have g1 := hF10.fz 1
  have g2 := hF10.fz 2
  clear hr9 hF9 hk9' hn9
  go_wp2_with (go_at_call 64; refine (end_two B (rst r3) _ hr10).mono ?_)
  rintro e w12 ⟨⟨hh, rfl⟩ | ⟨hh, rfl⟩, rfl⟩
  rotate_left
  · exact ⟨rfl, .inr (by rw [HN.out (by rw [HX6.out, if_neg hh])]; exact ⟨by decide, rfl⟩), hk10⟩
  have hEE := HS.out _ (by rw [HX6.out, if_pos hh])
  have HEE : Hid _ := hEE
  clear hEE hh HX6 hr10 f9 q9 HS HN
  go_wp2
  have hF12 := ((hF10.s0 (.string ⟨(prt r1).toArray⟩)).s1 (.slice a1 m1 c1)).s2 (.int .i64 (N : Int))
  have d0 := hF12.c0
  have d1 := hF12.c1
  have d2 := hF12.c2
  refine bodyPost_ret (v := .agg (qcells ⟨prt r1, X, N⟩ (.slice a1 m1 c1))) (by simp [results, Tryz.results37, go_sem, d0, d1, d2, qcells]) rfl ⟨.inl (by rw [HEE.out]; exact ⟨rfl, _, rfl, (((hn10.set (i := 0) hR5 _).set (i := 1) hR5 _).set (i := 2) hR5 _).weak (by omega)⟩), HST.out (HST.out (HST.out hk10))⟩

theorem questE_cases (L : Tx) : (questE L).2 = 0 ∨ (questE L).1 = noQP := by
  unfold questE
  split
  · exact .inl rfl
  · exact .inr rfl

theorem catchQ_panicking (p : Addr) (x n : Int) (older : List PanicEntry) (w : World) (hc : w.cell? p = some (.int .i64 x)) (hz : w.frozen? p = false) :
    CallsD Tryz.prog 59 #[.pointer (some p)] (.panicking ({ v := .iface 103 (.agg #[.int .i64 n]), recovered := false } :: older)) w fun e u' w' =>
      e = .returned (.tuple #[]) ∧ u' = .panicking ({ v := .iface 103 (.agg #[.int .i64 n]), recovered := true } :: older) ∧ w' = w.setCell p (.int .i64 n) := by
  refine callsD_of_wpS Tryz.func59 rfl fun c₀ cs hu => ?_
  apply wpS_seq
  apply wpS_region
  simp [wpOpsS, go_sem, recoverD, hu, Tryz.ntmps59, Exit.thenS]
  refine wpS_of_wp ?_
  rw [show #[Value.pointer (some p)] ++ ((Array.replicate 7 undef).setIfInBounds 1 (Value.iface 103 (Value.agg #[Value.int IntKind.i64 n]))).setIfInBounds 0 (Value.iface 103 (Value.agg #[Value.int IntKind.i64 n])) = #[Value.pointer (some p), Value.iface 103 (Value.agg #[Value.int IntKind.i64 n]), Value.iface 103 (Value.agg #[Value.int IntKind.i64 n]), undef, undef, undef, undef, undef] from rfl]
  have hta : (Instr.typeAssert (Value.iface 103 (Value.agg #[Value.int IntKind.i64 n])) 20 103 false).run Tryz.prog w = .ok (Value.agg #[Value.int IntKind.i64 n]) w := by
    simp [Instr.typeAssert, go_sem]
  have hfd : (Instr.field 103 (Value.agg #[Value.int IntKind.i64 n]) 0).run Tryz.prog w = .ok (Value.int IntKind.i64 n) w := by
    simp [Instr.field, go_sem, asAgg]
  go_wp2
  simp [bodyPostS, results, Tryz.results59]
theorem catchQ_idle (p : Addr) (w : World) :
    CallsD Tryz.prog 59 #[.pointer (some p)] .returning w fun e u' w' => e = .returned (.tuple #[]) ∧ u' = .returning ∧ w' = w := by
  refine callsD_of_wpS Tryz.func59 rfl fun c₀ cs hu => ?_
  apply wpS_seq
  apply wpS_region
  simp [wpOpsS, go_sem, recoverD, hu, Tryz.ntmps59, Exit.thenS]
  refine wpS_of_wp ?_
  rw [show #[Value.pointer (some p)] ++ ((Array.replicate 7 undef).setIfInBounds 1 Value.nilIface).setIfInBounds 0 Value.nilIface = #[Value.pointer (some p), Value.nilIface, Value.nilIface, undef, undef, undef, undef, undef] from rfl]
  go_wp2
  cases c₀
  simp_all [bodyPostS, results, Tryz.results59]

/-- What begun and Final hand back. -/
def ToldQ (w : World) (p : QP × Nat) (e : Ending) (w' : World) : Prop := ∃ v, e = .returned (.tuple #[.agg (qcells p.1 v), .int .i64 p.2]) ∧ New w w' v p.1.sa

set_option maxHeartbeats 4000000 in
set_option maxRecDepth 100000 in
theorem begunQ_any (k B : Nat) (p : QP × Nat) (w : World) (hent : ∀ args w, (callFunc k args).run Tryz.prog w = .ok (.enter k args) w) (hp : p.2 = 0 ∨ p.1 = noQP) (hB : B < w.heap.size)
    (hc : ∀ W, Below w.heap.size w W → Calls Tryz.prog k #[.pointer (some ⟨B, 0, none⟩)] W fun e w' => GaveQ W p e w' ∧ Keep (fun j => j = B) W w') :
    Calls Tryz.prog 36 #[.func (.func k) #[.pointer (some ⟨B, 0, none⟩)] #[]] w fun e w' => ToldQ w p e w' ∧ Keep (fun j => j = B) w w' := by
  have hmf : ∀ (fn : Fn) (first cap : Array Value) (w : World), (Instr.makeFunc fn first cap).run Tryz.prog w = .ok (.func fn first cap) w := fun _ _ _ _ => rfl
  have hb0 : Below w.heap.size w ((w.alloc (.cells #[.string ⟨#[]⟩, .slice none 0 0, .int .i64 0] 72)).alloc (.cells #[.int .i64 0] 28)) := ((Below.refl _ _).alloc (Nat.le_refl _) _).alloc (by simp) _
  have hz0 : ((w.alloc (.cells #[.string ⟨#[]⟩, .slice none 0 0, .int .i64 0] 72)).alloc (.cells #[.int .i64 0] 28)).heap.size = w.heap.size + 2 := by simp
  have hcF : QAt ((w.alloc (.cells #[.string ⟨#[]⟩, .slice none 0 0, .int .i64 0] 72)).alloc (.cells #[.int .i64 0] 28)) w.heap.size (.string ⟨#[]⟩) (.slice none 0 0) (.int .i64 0) := by
    show ((w.heap.push (.cells #[.string ⟨#[]⟩, .slice none 0 0, .int .i64 0] 72)).push (.cells #[.int .i64 0] 28))[w.heap.size]? = _
    rw [Array.getElem?_push_lt (by simp)]
    simp
  have hcE : ((w.alloc (.cells #[.string ⟨#[]⟩, .slice none 0 0, .int .i64 0] 72)).alloc (.cells #[.int .i64 0] 28)).heap[w.heap.size + 1]? = some (.cells #[.int .i64 0] 28 (0, 0)) := by
    have h := @Array.getElem?_push_size _ (w.heap.push (.cells #[.string ⟨#[]⟩, .slice none 0 0, .int .i64 0] 72)) (.cells #[.int .i64 0] 28)
    rw [Array.size_push] at h
    exact h
  have hc := hc _ hb0
  have hn1 : ¬ w.heap.size = B := by omega
  have hn2 : ¬ w.heap.size + 1 = B := by omega
  obtain ⟨f, n⟩ := p
  by_cases h0 : n = 0
  · subst h0
    have hc' := hc.mono (fun e w' h => And.intro (h.1.elim (fun k => k.2) (fun k => absurd rfl k.1)) h.2 : ∀ e w', _ → ((∃ v, e = .returned (.agg (qcells f v)) ∧ New ((w.alloc (.cells #[.string ⟨#[]⟩, .slice none 0 0, .int .i64 0] 72)).alloc (.cells #[.int .i64 0] 28)) w' v f.sa) ∧ _))
    clear hc
    unfold qcells at hc'
    go_enter_defers Tryz.func36, Tryz.ntmps36
    go_wp2_with (go_at_fn k; refine hc'.mono ?_; rintro e w1 ⟨⟨v, rfl, hnew⟩, hk⟩; have hF := hcF.keep hk hn1; have c0 := hF.c0; have c1 := hF.c1; have c2 := hF.c2; have f0 := hF.fz 0; have f1 := hF.fz 1; have f2 := hF.fz 2; have hE1 := (hk.block (w.heap.size + 1) (by omega) hn2).trans hcE; have hcl := cell_one hE1; have hfz := thaw_one hE1; obtain ⟨va, vc, rfl, _⟩ := hnew.rd; clear hE1)
    refine leaves_cons (f := 59) (args := #[.pointer (some ⟨w.heap.size + 1, 0, none⟩)]) (by simp) (by simp [go_sem]) ?_
    refine (catchQ_idle ⟨w.heap.size + 1, 0, none⟩ _).mono ?_
    rintro e u' w2 ⟨rfl, rfl, rfl⟩
    have hkk : Keep (fun j => j = B) w ((((w1.setCell ⟨w.heap.size, 0, none⟩ (.string ⟨f.no.toArray⟩)).setCell ⟨w.heap.size, 1, none⟩ (.slice va f.sa.length vc)).setCell ⟨w.heap.size, 2, none⟩ (.int .i64 (f.n : Int))).setCell ⟨w.heap.size + 1, 0, none⟩ (.int .i64 0)) :=
      (((((Keep.ofBelow hb0).trans hk).setNew (p := ⟨w.heap.size, 0, none⟩) (Nat.le_refl _) _).setNew (p := ⟨w.heap.size, 1, none⟩) (Nat.le_refl _) _).setNew (p := ⟨w.heap.size, 2, none⟩) (Nat.le_refl _) _).setNew (p := ⟨w.heap.size + 1, 0, none⟩) (Nat.le_succ _) _
    have hnn : New w ((((w1.setCell ⟨w.heap.size, 0, none⟩ (.string ⟨f.no.toArray⟩)).setCell ⟨w.heap.size, 1, none⟩ (.slice va f.sa.length vc)).setCell ⟨w.heap.size, 2, none⟩ (.int .i64 (f.n : Int))).setCell ⟨w.heap.size + 1, 0, none⟩ (.int .i64 0)) (.slice va f.sa.length vc) f.sa :=
      ((((hnew.set (by omega) _).set (by omega) _).set (by omega) _).set (by omega) _).weak (by omega)
    simp [Leaves, settle, results, Tryz.results36, go_sem, c0, c1, c2, hcl]
    exact ⟨⟨_, rfl, hnn⟩, hkk⟩
  · have hj : f = noQP := hp.elim (fun h => absurd h h0) id
    subst hj
    have hc' := hc.mono (fun e w' h => And.intro (h.1.elim (fun k => absurd k.1 h0) (fun k => k.2)) h.2 : ∀ e w', _ → (e = .panicked (gaveUp n) ∧ _))
    clear hc
    go_enter_defers Tryz.func36, Tryz.ntmps36
    go_wp2_with (go_at_fn k; refine hc'.mono ?_; rintro e w1 ⟨rfl, hk⟩; have hF := hcF.keep hk hn1; have c0 := hF.c0; have c1 := hF.c1; have c2 := hF.c2; have hE1 := (hk.block (w.heap.size + 1) (by omega) hn2).trans hcE; have hcl := cell_one hE1; have hfz := thaw_one hE1; clear hF hE1)
    refine leaves_cons (f := 59) (args := #[.pointer (some ⟨w.heap.size + 1, 0, none⟩)]) (by simp) (by simp [go_sem]) ?_
    refine (catchQ_panicking ⟨w.heap.size + 1, 0, none⟩ 0 n [] _ hcl hfz).mono ?_
    rintro e u' w2 ⟨rfl, rfl, rfl⟩
    have hkk : Keep (fun j => j = B) w (w1.setCell ⟨w.heap.size + 1, 0, none⟩ (.int .i64 n)) :=
      ((Keep.ofBelow hb0).trans hk).setNew (p := ⟨w.heap.size + 1, 0, none⟩) (Nat.le_succ _) _
    simp [Leaves, settle, results, Tryz.results36, go_sem, noQP, c0, c1, c2, hcl]
    exact ⟨⟨_, rfl, ⟨rfl, .inl ⟨rfl, rfl⟩⟩, Bd.nil⟩, hkk⟩

end Go.Proofs.YtmilcknboaefkaaGreatDoor

/- What is laid for ScramAgrees and ScramProve: strconv's two errors too. -/
namespace Go.Proofs.YtmilcknboaefkaaGreatDoor
open Go.ChangeShapes Go.WideShapes Go.ChangeAt Go.RowKit

theorem gER : Tryz.prog.globalNamed "strconv.ErrRange" = some 7 := by kernel_rfl
theorem gES : Tryz.prog.globalNamed "strconv.ErrSyntax" = some 6 := by kernel_rfl
theorem gERType : (Tryz.prog.globals[7]?).map (·.type) = some 133 := by kernel_rfl
theorem gESType : (Tryz.prog.globals[6]?).map (·.type) = some 133 := by kernel_rfl
set_option maxRecDepth 100000 in
theorem iface_cell {H : Type} {enc : TypeId × Value → H} {W : World} {base : Nat} {sp : Nat → Bool} {held : Bool} {fuel : Nat} {cs : List Value} {x : DataW H × List MemPlace} (h : DataW.trod enc Tryz.prog W base sp held fuel 133 cs = some x) : ∃ v, cs = [v] ∧ (v = .nilIface ∨ ∃ te pe, v = .iface te pe) := by
  cases fuel with
  | zero => simp [DataW.trod] at h
  | succ n =>
    have hu := Tryz.underlying133
    match cs, h with
    | [], h => simp [DataW.trod, hu] at h
    | [v], h =>
      refine ⟨v, rfl, ?_⟩
      cases v with
      | nilIface => exact .inl rfl
      | iface te pe => exact .inr ⟨te, pe, rfl⟩
      | _ => simp [DataW.trod, hu] at h
    | _ :: _ :: _, h => simp [DataW.trod, hu] at h
theorem err_in {H : Type} {enc : TypeId × Value → H} {W : World} {base : Nat} {sp : Nat → Bool} {held : Bool} {fuel : Nat} {cs : Array Value} {x : DataW H × List MemPlace} {nm : String} {g : Nat} (hg : Tryz.prog.globalNamed nm = some g) (hv : W.var? Tryz.prog nm = some cs) (hd : DataW.trod enc Tryz.prog W base sp held fuel 133 cs.toList = some x) :
    ∃ ev, W.cell? ⟨g, 0, none⟩ = some ev ∧ (ev = .nilIface ∨ ∃ te pe, ev = .iface te pe) := by
  obtain ⟨v, hc, hk⟩ := iface_cell hd
  refine ⟨v, ?_, hk⟩
  rw [World.var?_cell hg hv 0, ← Array.getElem?_toList, hc]
  rfl
theorem le_of {W : World} (h : laidMetH Tryz.prog [("math/bits.deBruijn32tab", Rows.laid_math_bits_deBruijn32tab), ("math/bits.deBruijn64tab", Rows.laid_math_bits_deBruijn64tab), ("internal/strconv.uint64pow10", Rows.laid_internal_strconv_uint64pow10), ("unicode/utf8.acceptRanges", Rows.laid_unicode_utf8_acceptRanges), ("roost/digest.firstState", Rows.laid_roost_digest_firstState), ("roost/digest.roundWords", Rows.laid_roost_digest_roundWords), ("strconv.ErrRange", Rows.laid_strconv_ErrRange), ("strconv.ErrSyntax", Rows.laid_strconv_ErrSyntax), ("unicode/utf8.first", Rows.laid_unicode_utf8_first)] W) : Kt W ∧ Lib.Utf8Tabs 1 2 W ∧ Pw W ∧ Er W := by
  have h' : laidMet Tryz.prog [("math/bits.deBruijn32tab", Rows.laid_math_bits_deBruijn32tab), ("math/bits.deBruijn64tab", Rows.laid_math_bits_deBruijn64tab), ("internal/strconv.uint64pow10", Rows.laid_internal_strconv_uint64pow10), ("unicode/utf8.acceptRanges", Rows.laid_unicode_utf8_acceptRanges), ("roost/digest.firstState", Rows.laid_roost_digest_firstState), ("roost/digest.roundWords", Rows.laid_roost_digest_roundWords), ("strconv.ErrRange", Rows.laid_strconv_ErrRange), ("strconv.ErrSyntax", Rows.laid_strconv_ErrSyntax), ("unicode/utf8.first", Rows.laid_unicode_utf8_first)] W := h
  obtain ⟨ps, ⟨g1, t1, cs1, fuel1, p1, q1, hg1, ht1, hv1, hd1, hr1, _⟩, _⟩ := h'
  obtain ⟨g2, t2, cs2, fuel2, p2, q2, hg2, ht2, hv2, hd2, hr2, _⟩ := hr1
  obtain ⟨g3, t3, cs3, fuel3, p3, q3, hg3, ht3, hv3, hd3, hr3, _⟩ := hr2
  obtain ⟨g4, t4, cs4, fuel4, p4, q4, hg4, ht4, hv4, hd4, hr4, _⟩ := hr3
  obtain ⟨g5, t5, cs5, fuel5, p5, q5, hg5, ht5, hv5, hd5, hr5, _⟩ := hr4
  obtain ⟨g6, t6, cs6, fuel6, p6, q6, hg6, ht6, hv6, hd6, hr6, _⟩ := hr5
  obtain ⟨g7, t7, cs7, fuel7, p7, q7, hg7, ht7, hv7, hd7, hr7, _⟩ := hr6
  obtain ⟨g8, t8, cs8, fuel8, p8, q8, hg8, ht8, hv8, hd8, hr8, _⟩ := hr7
  obtain ⟨g9, t9, cs9, fuel9, p9, q9, hg9, ht9, hv9, hd9, _, _⟩ := hr8
  obtain rfl := Option.some.inj (gPw.symm.trans hg3)
  obtain rfl := Option.some.inj (gPwType.symm.trans ht3)
  obtain rfl := Option.some.inj (gAcc.symm.trans hg4)
  obtain rfl := Option.some.inj (gAccType.symm.trans ht4)
  obtain rfl := Option.some.inj (gH.symm.trans hg5)
  obtain rfl := Option.some.inj (gHType.symm.trans ht5)
  obtain rfl := Option.some.inj (gK.symm.trans hg6)
  obtain rfl := Option.some.inj (gKType.symm.trans ht6)
  obtain rfl := Option.some.inj (gUF.symm.trans hg9)
  obtain rfl := Option.some.inj (gUFType.symm.trans ht9)
  obtain rfl := Option.some.inj (gERType.symm.trans (by rw [← Option.some.inj (gER.symm.trans hg7)] at ht7; exact ht7))
  obtain rfl := Option.some.inj (gESType.symm.trans (by rw [← Option.some.inj (gES.symm.trans hg8)] at ht8; exact ht8))
  exact ⟨kt_in hv5 hd5 hv6 hd6, tabs_in hv4 hd4 hv9 hd9, pw_in hv3 hd3, err_in gES hv8 hd8, err_in gER hv7 hd7⟩
end Go.Proofs.YtmilcknboaefkaaGreatDoor
