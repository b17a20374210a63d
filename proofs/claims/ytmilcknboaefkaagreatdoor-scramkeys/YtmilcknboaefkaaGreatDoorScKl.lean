/- ScramKeys: the law's walk. -/
import Derived.Test.YtmilcknboaefkaaGreatDoorScD
namespace Go.Proofs.YtmilcknboaefkaaGreatDoor
open Go.RowKit Go.Shelf

theorem wake1 : firstE [110, 44, 44, 110, 61, 97, 61, 50, 67, 98, 61, 51, 68, 44, 114, 61, 98] = (⟨[110, 44, 44], [97, 44, 98, 61], [98], [110, 61, 97, 61, 50, 67, 98, 61, 51, 68, 44, 114, 61, 98]⟩, 0) := by kernel_rfl
theorem wake2 : firstE [110, 44, 44, 110, 61, 97] = (noFP, 2) := by kernel_rfl

set_option maxHeartbeats 1000000 in
theorem wakes_any (w : World) (hM : Mx w) (hT : Lib.Utf8Tabs 1 2 w) : Calls Tryz.prog 14 #[] w fun e w' => e = .returned (.bool true) ∧ Below w.heap.size w w' := by
  have hg1 := World.block_lt_of_cell? w _ (hT.1 0 (by omega))
  have hg2 := World.block_lt_of_cell? w _ (hT.2 0 (by omega)).1
  have c1 := first_any [110, 44, 44, 110, 61, 97, 61, 50, 67, 98, 61, 51, 68, 44, 114, 61, 98] w hM hT hg1 hg2
  rw [wake1] at c1
  unfold fcells at c1
  have c2 := fun (u : World) (hb : Below w.heap.size w u) => first_any [110, 44, 44, 110, 61, 97] u (hM.below hb) (tabs_below hT hb) (Nat.lt_of_lt_of_le hg1 hb.size) (Nat.lt_of_lt_of_le hg2 hb.size)
  rw [wake2] at c2
  unfold fcells noFP at c2
  dsimp only at c1 c2
  have HW : Hid (∀ u, Below w.heap.size w u → FAt (u.alloc (.cells #[.string ⟨#[110, 44, 44]⟩, .string ⟨#[97, 44, 98, 61]⟩, .string ⟨#[98]⟩, .string ⟨#[110, 61, 97, 61, 50, 67, 98, 61, 51, 68, 44, 114, 61, 98]⟩] 35)) u.heap.size (.string ⟨#[110, 44, 44]⟩) (.string ⟨#[97, 44, 98, 61]⟩) (.string ⟨#[98]⟩) (.string ⟨#[110, 61, 97, 61, 50, 67, 98, 61, 51, 68, 44, 114, 61, 98]⟩)) := fun u _ => heap_alloc_new u _
  clear hM hT hg1 hg2
  have tk1 : True := trivial
  go_enter Tryz.func14, Tryz.ntmps14
  go_wp2_with (first
    | (clear tk1; go_at_call 20; refine c1.mono ?_; rintro e w1 ⟨rfl, hb1⟩; have hA1 := HW.out w1 hb1; have hb2 := hb1.alloc hb1.size (.cells #[.string ⟨#[110, 44, 44]⟩, .string ⟨#[97, 44, 98, 61]⟩, .string ⟨#[98]⟩, .string ⟨#[110, 61, 97, 61, 50, 67, 98, 61, 51, 68, 44, 114, 61, 98]⟩] 35))
    | (go_at_call 20; refine (c2 _ hb2).mono ?_; rintro e w3 ⟨rfl, hb3⟩; have hA3 := (hA1.below hb3).below ((Below.refl _ _).alloc (Nat.le_refl _) (.cells #[.string ⟨#[]⟩, .string ⟨#[]⟩, .string ⟨#[]⟩, .string ⟨#[]⟩] 35)); have r1 := hA3.c1; have r2 := hA3.c2; have r3 := hA3.c3))
  go_ret
  exact ⟨rfl, (hb2.trans (hb3.mono hb2.size)).alloc (Nat.le_trans hb2.size hb3.size) _⟩

theorem cutL_any (T : Tx) (w : World) (hT : T.length ≤ 9223372036854775807) : Calls Tryz.prog 12 #[.string ⟨T.toArray⟩] w fun e w' => e = .returned (.string ⟨(T.take 1100).toArray⟩) ∧ w' = w := by
  have c := fun w => text_any ⟨T.toArray⟩ 1100 w (by rw [size_tx]; exact hT) (by omega)
  have e1 : strOfNums ((nums ⟨T.toArray⟩).take 1100) = ⟨(T.take 1100).toArray⟩ := by
    show strOfNums ((il T).take 1100) = _
    rw [show (il T).take 1100 = il (T.take 1100) by simp [il, List.map_take], str_il]
  rw [e1] at c
  obtain ⟨S, HS⟩ : ∃ S, Hid ((⟨T.toArray⟩ : ByteArray) = S) := ⟨_, rfl⟩
  rw [HS.out] at c ⊢
  clear e1
  go_enter Tryz.func12, Tryz.ntmps12
  go_wp2_with (go_at_call 7; refine (c _).mono ?_; rintro e w1 ⟨rfl, rfl⟩)
  go_ret
  exact ⟨rfl, rfl⟩


/-- Two arrays of 32 bytes compared. -/
theorem wp_eql23 {ops : Array Oper} {rest : List Oper} {o : Oper} {a : Act} {w : World} {Q : Exit → Act → World → Prop} (hgd : o.guard = none) (x y : Operand) (ho : o.op = .binOp .eql 27 x y 27)
    (xs ys : List Int) (hx : a.eval x = .agg (ic .u8 xs).toArray) (hy : a.eval y = .agg (ic .u8 ys).toArray) (hlx : xs.length = 32) (hly : ys.length = 32)
    (h : wpList Tryz.prog ops Q rest (a.put o.dst (.bool (decide (xs = ys)))) w) : wpList Tryz.prog ops Q (o :: rest) a w := by
  have hr := exec_binOp (P := Tryz.prog) (w := w) (ρ := a.eval) .eql 27 x y _ ho _ _ _ hx hy (Tryz.guard23 w .eql x y _ _) (Tryz.eql23 w xs ys hlx hly)
  refine wpList_plain hgd fun _ hK => ?_
  unfold Oper.wp
  rw [hr]
  exact hK _ _ h

/-- The like, behind a guard. -/
theorem wp_eql23W {ops : Array Oper} {rest : List Oper} {o : Oper} {a : Act} {w : World} {Q : Exit → Act → World → Prop} (hw : Region.wanted o (yielded ops a.tmps) = true) (x y : Operand) (ho : o.op = .binOp .eql 27 x y 27)
    (xs ys : List Int) (hx : a.eval x = .agg (ic .u8 xs).toArray) (hy : a.eval y = .agg (ic .u8 ys).toArray) (hlx : xs.length = 32) (hly : ys.length = 32)
    (h : wpList Tryz.prog ops Q rest (a.put o.dst (.bool (decide (xs = ys)))) w) : wpList Tryz.prog ops Q (o :: rest) a w := by
  have hr := exec_binOp (P := Tryz.prog) (w := w) (ρ := a.eval) .eql 27 x y _ ho _ _ _ hx hy (Tryz.guard23 w .eql x y _ _) (Tryz.eql23 w xs ys hlx hly)
  refine Go.BigFrame.wpList_want hw fun _ hK => ?_
  unfold Oper.wp
  rw [hr]
  exact hK _ _ h


theorem wp_load_arW {ops : Array Oper} {rest : List Oper} {o : Oper} {a : Act} {w : World} {Q : Exit → Act → World → Prop} (hw : Region.wanted o (yielded ops a.tmps) = true) (ty : TypeId) (x : Operand) (ho : o.op = .load ty x)
    (g : Nat) (hx : a.eval x = .pointer (some ⟨g, 0, none⟩)) (t : TypeId) (k : IntKind) (xs : List Int) (e : TypeId) (n : Nat) (hg : Ar w g t k xs)
    (hu : (Tryz.prog.underlying ty, (Tryz.prog.info? ty).map (·.size)) = (some (.array n e), some n)) (hn : xs.length = n)
    (h : wpList Tryz.prog ops Q rest (a.put o.dst (.agg (ic k xs).toArray)) w) : wpList Tryz.prog ops Q (o :: rest) a w := by
  have hr := exec_load_ar (P := Tryz.prog) (w := w) (ρ := a.eval) ty x ho g hx t k xs e n hg hu hn
  refine Go.BigFrame.wpList_want hw fun _ hK => ?_
  unfold Oper.wp
  rw [hr]
  exact hK _ _ h
theorem exec_load_row {o : Oper} {ρ : Operand → Value} {w : World} (ty : TypeId) (x : Operand) (ho : o.op = .load ty x) (g : Nat) (hx : ρ x = .pointer (some ⟨g, 0, none⟩)) (t : TypeId) (cs : Array Value) (fs : Array Field) (hg : w.heap[g]? = some (.cells cs t (0, 0)))
    (hu : Tryz.prog.underlying ty = some (.struct fs)) (hi : (Tryz.prog.info? ty).map (·.size) = some cs.size) :
    (execOp ρ o).run Tryz.prog w = .ok (.value (.agg cs)) w := by
  unfold execOp
  simp only [ho, hx, Instr.loadAt, Instr.sureAddr, Sem.run_bind, Sem.run_pure, Result.andThen_ok, run_loadVar_row w g t ty cs (0, 0) _ hg hu rfl hi]

theorem text_tx (T : Tx) (m : Nat) (w : World) (hT : T.length ≤ 9223372036854775807) (hm : m ≤ 100000) : Calls Tryz.prog 7 #[.string ⟨T.toArray⟩, .int .i64 m] w fun e w' => e = .returned (.string ⟨(T.take m).toArray⟩) ∧ w' = w := by
  have c := text_any ⟨T.toArray⟩ m w (by rw [size_tx]; exact hT) hm
  have e1 : strOfNums ((nums ⟨T.toArray⟩).take m) = ⟨(T.take m).toArray⟩ := by
    show strOfNums ((il T).take m) = _
    rw [show (il T).take m = il (T.take m) by simp [il, List.map_take], str_il]
  rw [e1] at c
  exact c
theorem fewR60 (a : Option Addr) (n c : Nat) (xs : List Int) (w : World) (hR : Rd w a n c xs) :
    Calls Tryz.prog 9 #[.slice a n c] w fun e w' => ∃ a' n' c', e = .returned (.slice a' n' c') ∧ n' ≤ 60 ∧ Rd w' a' n' c' (xs.take 60) ∧ Below w.heap.size w w' :=
  (fewN a n c xs w hR).mono fun _ _ ⟨a', c', h1, _, h3, h4⟩ => ⟨a', _, c', h1, by rw [List.length_take]; omega, h3, h4⟩

def TkAt (w : World) (R : Nat) (a b c d e f : Value) : Prop := w.heap[R]? = some (.cells #[a, b, c, d, e, f] 24 (0, 0))
theorem TkAt.lt {w : World} {R : Nat} {a b c d e f : Value} (h : TkAt w R a b c d e f) : R < w.heap.size := (Array.getElem?_eq_some_iff.1 h).1
theorem TkAt.keep {S : Nat → Prop} {w w' : World} {R : Nat} {a b c d e f : Value} (h : TkAt w R a b c d e f) (hk : Keep S w w') (hs : ¬ S R) : TkAt w' R a b c d e f := (hk.block R h.lt hs).trans h
theorem TkAt.below {w w' : World} {R : Nat} {a b c d e f : Value} (h : TkAt w R a b c d e f) (hb : Below w.heap.size w w') : TkAt w' R a b c d e f := (hb.block R h.lt).trans h
theorem TkAt.c0 {w : World} {R : Nat} {a b c d e f : Value} (h : TkAt w R a b c d e f) : w.cell? ⟨R, 0, none⟩ = some a := by unfold TkAt at h; simp [World.cell?, h]
theorem TkAt.c2 {w : World} {R : Nat} {a b c d e f : Value} (h : TkAt w R a b c d e f) : w.cell? ⟨R, 2, none⟩ = some c := by unfold TkAt at h; simp [World.cell?, h]
theorem TkAt.c3 {w : World} {R : Nat} {a b c d e f : Value} (h : TkAt w R a b c d e f) : w.cell? ⟨R, 3, none⟩ = some d := by unfold TkAt at h; simp [World.cell?, h]
theorem TkAt.c4 {w : World} {R : Nat} {a b c d e f : Value} (h : TkAt w R a b c d e f) : w.cell? ⟨R, 4, none⟩ = some e := by unfold TkAt at h; simp [World.cell?, h]
theorem TkAt.c5 {w : World} {R : Nat} {a b c d e f : Value} (h : TkAt w R a b c d e f) : w.cell? ⟨R, 5, none⟩ = some f := by unfold TkAt at h; simp [World.cell?, h]

set_option maxHeartbeats 4000000 in
set_option maxRecDepth 100000 in
theorem scramKeys_any (P U O T : Tx) (a : Option Addr) (n c : Nat) (ss : List Int) (N : Int) (w : World) (h1 : P.length ≤ 9223372036854775807) (h2 : O.length ≤ 9223372036854775807) (h3 : T.length ≤ 9223372036854775807) (hR : Rd w a n c ss) (hK : Kt w) (hM : Mx w) (hT : Lib.Utf8Tabs 1 2 w) (hP : Pw w) :
    Calls Tryz.prog 3 #[.agg #[.string ⟨P.toArray⟩, .string ⟨U.toArray⟩, .string ⟨O.toArray⟩, .string ⟨T.toArray⟩, .slice a n c, .int .i64 N]] w fun e w' => e = .returned (.bool true) ∧ Below w.heap.size w w' := by
  have hi23 := (size_of Tryz.u23).2
  have hi35 : (Tryz.prog.info? 35).map (·.size) = some 4 := by kernel_rfl
  have cP := fun w => text_tx P 200 w h1 (by omega)
  have cO := fun w => text_tx O 200 w h2 (by omega)
  have cT := fun w => cutL_any T w h3
  have lP : (P.take 200).length ≤ 200 := by rw [List.length_take]; omega
  have lO : (O.take 200).length ≤ 200 := by rw [List.length_take]; omega
  have lT : (T.take 1100).length ≤ 1100 := by rw [List.length_take]; omega
  obtain ⟨P2, HP2⟩ : ∃ A, Hid (P.take 200 = A) := ⟨_, rfl⟩
  obtain ⟨O2, HO2⟩ : ∃ A, Hid (O.take 200 = A) := ⟨_, rfl⟩
  obtain ⟨T2, HT2⟩ : ∃ A, Hid (T.take 1100 = A) := ⟨_, rfl⟩
  rw [HP2.out] at cP lP
  rw [HO2.out] at cO lO
  rw [HT2.out] at cT lT
  have cf := fun (u : World) (h : Rd u a n c ss) => fewR60 a n c ss u h
  obtain ⟨X, HX⟩ := hidE (ss.take 60)
  rw [HX.out] at cf
  have cr := fun u => rounds_any N u
  obtain ⟨M, HM⟩ : ∃ M, Hid (rnd N = M) := ⟨_, rfl⟩
  rw [HM.out] at cr
  obtain ⟨A, B, C, E, lA, lB, lC, kA, kR⟩ := keys_both P2 X M (by omega)
  obtain ⟨Yt, G, kC, kD⟩ := challenge_both [] [] O2 [] T2 X M (by omega) (by omega)
  have cW := fun (u : World) (hb : Below w.heap.size w u) => wakes_any u (hM.below hb) (tabs_below hT hb)
  have HcW : Hid _ := cW
  have Hal : Hid (∀ (u : World) (o : Obj), Below u.heap.size u (u.alloc o)) := fun u o => (Below.refl _ _).alloc (Nat.le_refl _) o
  have Htr : Hid (∀ {u u' : World}, Below w.heap.size w u → Below u.heap.size u u' → Below w.heap.size w u') := fun h1 h2 => h1.trans (h2.mono h1.size)
  have HPw : Hid (∀ u, Below w.heap.size w u → Pw u) := fun u h => hP.below h
  clear h1 h2 h3 cW hM hT hP
  have hb0 : Below w.heap.size w (w.alloc (.cells #[.string ⟨P.toArray⟩, .string ⟨U.toArray⟩, .string ⟨O.toArray⟩, .string ⟨T.toArray⟩, .slice a n c, .int .i64 N] 24)) := (Below.refl _ _).alloc (Nat.le_refl _) _
  have hT0 : TkAt (w.alloc (.cells #[.string ⟨P.toArray⟩, .string ⟨U.toArray⟩, .string ⟨O.toArray⟩, .string ⟨T.toArray⟩, .slice a n c, .int .i64 N] 24)) w.heap.size (.string ⟨P.toArray⟩) (.string ⟨U.toArray⟩) (.string ⟨O.toArray⟩) (.string ⟨T.toArray⟩) (.slice a n c) (.int .i64 N) := heap_alloc_new _ _
  have rc5 := hT0.c5
  have tk1 : True := trivial
  have tk2 : True := trivial
  have tk3 : True := trivial
  have tk4 : True := trivial
  have tk5 : True := trivial
  have tk6 : True := trivial
  go_enter Tryz.func3, Tryz.ntmps3
  go_wp2_with (first
    | (go_at_call 6; refine (cr _).mono ?_; rintro e w1 ⟨rfl, hb1⟩; have hT1 := hT0.below hb1; have e1 := Htr.out hb0 hb1; have rc0 := hT1.c0; have rc4 := hT1.c4; clear rc5 hT0 hb0 hb1)
    | (clear tk1; go_at_call 7; refine (cP _).mono ?_; rintro e wq ⟨rfl, rfl⟩)
    | (clear tk2; go_at_call 9; refine (cf _ (hR.carry (Nat.le_refl _) e1)).mono ?_; rintro e w3 ⟨a3, n3, c3, rfl, hn3, hR3, hb3⟩; have e3 := Htr.out e1 hb3; have hT3 := hT1.below hb3; clear rc0 rc4 hb3 hT1 e1)
    | (go_at_call 8; refine (kA a3 n3 c3 _ hR3 (by omega) (hK.below (Nat.le_refl _) e3)).mono ?_; rintro e w4 ⟨rfl, hb4⟩; have e4 := Htr.out e3 hb4; have hT4 := hT3.below hb4; have l4 := hT4.lt; clear hR3 hb4 e3 hT3)
    | (clear tk3; refine wp_alloc_ar rfl 27 rfl .u8 (List.replicate 32 0) 32 Tryz.z23 ?_; intro g5 w5 A5 hg5 hb5; have e5 := Htr.out e4 hb5; have hT5 := hT4.below hb5; have l5 := A5.lt; have s5 := hb5.size; clear hb5 e4 hT4)
    | (clear tk4; refine wp_alloc_ar rfl 27 rfl .u8 (List.replicate 32 0) 32 Tryz.z23 ?_; intro g6 w6 A6 hg6 hb6; have e6 := Htr.out e5 hb6; have hT6 := hT5.below hb6; have A5' := A5.below hb6 l5; have l6 := A6.lt; have s6 := hb6.size; clear hb6 e5 hT5 A5)
    | (refine wp_store_ar rfl 27 (.tmp 5) (.tmp 30) rfl g5 rfl .u8 A rfl 27 _ A5' (by rw [lA]; rfl) (by rw [lA]; exact hi23) ?_; intro w7 A5a hk7 hs7; clear hs7; have z7 := hk7.size; have A6a := A6.keep hk7 (by omega); have hT7 := hT6.keep hk7 (by omega); have e7 : Below w.heap.size w w7 := e6.trans (hk7.below e6.size (fun q hq => by omega)); clear A5' A6 hT6 e6 hk7)
    | (refine wp_store_ar rfl 27 (.tmp 6) (.tmp 31) rfl g6 rfl .u8 B rfl 27 _ A6a (by rw [lB]; rfl) (by rw [lB]; exact hi23) ?_; intro w8 A6b hk8 hs8; clear hs8; have z8 := hk8.size; have A5b := A5a.keep hk8 (by omega); have hT8 := hT7.keep hk8 (by omega); have e8 : Below w.heap.size w w8 := e7.trans (hk8.below e7.size (fun q hq => by omega)); clear A5a A6a hT7 e7 hk8; have rc4 := hT8.c4)
    | (go_at_call 9; refine (cf _ (hR.carry (Nat.le_refl _) e8)).mono ?_; rintro e w9 ⟨a9, n9, c9, rfl, hn9, hR9, hb9⟩; clear rc4)
    | (go_at_call 10; refine (kR a9 n9 c9 _ hR9 (by omega)).mono ?_; rintro e wA ⟨rfl, hbA⟩; have bA := hb9.trans (hbA.mono hb9.size); have eA := Htr.out e8 bA; have hTA := hT8.below bA; have A5c := A5b.below bA A5b.lt; have A6c := A6b.below bA A6b.lt; have sA := bA.size; clear hb9 hbA hR9 bA e8 hT8 A5b A6b)
    | (clear tk5; refine wp_alloc_ar rfl 27 rfl .u8 (List.replicate 32 0) 32 Tryz.z23 ?_; intro g8 wB A8 hg8 hbB; have eB := Htr.out eA hbB; have hTB := hTA.below hbB; have A5d := A5c.below hbB A5c.lt; have A6d := A6c.below hbB A6c.lt; have l8 := A8.lt; have sB := hbB.size; clear hbB eA hTA A5c A6c)
    | (clear tk6; refine wp_alloc_ar rfl 27 rfl .u8 (List.replicate 32 0) 32 Tryz.z23 ?_; intro g9 wC A9 hg9 hbC; have eC := Htr.out eB hbC; have hTC := hTB.below hbC; have A5e := A5d.below hbC A5d.lt; have A6e := A6d.below hbC A6d.lt; have A8e := A8.below hbC l8; have l9 := A9.lt; have sC := hbC.size; clear hbC eB hTB A5d A6d A8)
    | (refine wp_alloc_ar rfl 27 rfl .u8 (List.replicate 32 0) 32 Tryz.z23 ?_; intro gT wD AT hgT hbD; have eD := Htr.out eC hbD; have hTD := hTC.below hbD; have A5f := A5e.below hbD A5e.lt; have A6f := A6e.below hbD A6e.lt; have A8f := A8e.below hbD A8e.lt; have A9f := A9.below hbD l9; have lT' := AT.lt; have sD := hbD.size; clear hbD eC hTC A5e A6e A8e A9)
    | (refine wp_store_ar rfl 27 (.tmp 8) (.tmp 40) rfl g8 rfl .u8 A rfl 27 _ A8f (by rw [lA]; rfl) (by rw [lA]; exact hi23) ?_; intro wE A8g hkE hsE; clear hsE; have zE := hkE.size; have A5g := A5f.keep hkE (by omega); have A6g := A6f.keep hkE (by omega); have A9g := A9f.keep hkE (by omega); have ATg := AT.keep hkE (by omega); have hTE := hTD.keep hkE (by omega); have eE : Below w.heap.size w wE := eD.trans (hkE.below eD.size (fun q hq => by omega)); clear A5f A6f A8f A9f AT hTD eD hkE)
    | (refine wp_store_ar rfl 27 (.tmp 9) (.tmp 41) rfl g9 rfl .u8 B rfl 27 _ A9g (by rw [lB]; rfl) (by rw [lB]; exact hi23) ?_; intro wF A9h hkF hsF; clear hsF; have zF := hkF.size; have A5h := A5g.keep hkF (by omega); have A6h := A6g.keep hkF (by omega); have A8h := A8g.keep hkF (by omega); have ATh := ATg.keep hkF (by omega); have hTF := hTE.keep hkF (by omega); have eF : Below w.heap.size w wF := eE.trans (hkF.below eE.size (fun q hq => by omega)); clear A5g A6g A8g A9g ATg hTE eE hkF)
    | (refine wp_store_ar rfl 27 (.tmp 10) (.tmp 42) rfl gT rfl .u8 C rfl 27 _ ATh (by rw [lC]; rfl) (by rw [lC]; exact hi23) ?_; intro wG ATi hkG hsG; clear hsG; have zG := hkG.size; have A5i := A5h.keep hkG (by omega); have A6i := A6h.keep hkG (by omega); have A8i := A8h.keep hkG (by omega); have A9i := A9h.keep hkG (by omega); have hTG := hTF.keep hkG (by omega); have eG : Below w.heap.size w wG := eF.trans (hkG.below eF.size (fun q hq => by omega)); clear A5h A6h A8h A9h ATh hTF eF hkG; have rc2 := hTG.c2)
    | (go_at_call 7; refine (cO _).mono ?_; rintro e wq ⟨rfl, rfl⟩))
  have b6 : Below wq.heap.size wq (wq.alloc (.cells #[.string ⟨#[]⟩, .string ⟨#[]⟩, .string ⟨O2.toArray⟩, .string ⟨#[]⟩] 35)) := Hal.out _ _
  have hF : FAt (wq.alloc (.cells #[.string ⟨#[]⟩, .string ⟨#[]⟩, .string ⟨O2.toArray⟩, .string ⟨#[]⟩] 35)) wq.heap.size (.string ⟨#[]⟩) (.string ⟨#[]⟩) (.string ⟨O2.toArray⟩) (.string ⟨#[]⟩) := heap_alloc_new _ _
  obtain ⟨V6, HV6⟩ : ∃ V, Hid (wq.alloc (.cells #[.string ⟨#[]⟩, .string ⟨#[]⟩, .string ⟨O2.toArray⟩, .string ⟨#[]⟩] 35) = V) := ⟨_, rfl⟩
  rw [HV6.out] at b6 hF ⊢
  have eV : Hid (Below w.heap.size w V6.drew) := (Htr.out eG b6).drew
  have hF6 : FAt V6.drew wq.heap.size (.string ⟨#[]⟩) (.string ⟨#[]⟩) (.string ⟨O2.toArray⟩) (.string ⟨#[]⟩) := hF
  have hT6 : TkAt V6.drew w.heap.size (.string ⟨P.toArray⟩) (.string ⟨U.toArray⟩) (.string ⟨O.toArray⟩) (.string ⟨T.toArray⟩) (.slice a n c) (.int .i64 N) := hTG.below b6.drew
  have hR6 := hR.carry (Nat.le_refl _) eV.out
  have hP6 := HPw.out _ eV.out
  have A5j : Ar V6.drew g5 27 .u8 A := A5i.below b6.drew A5i.lt
  have A6j : Ar V6.drew g6 27 .u8 B := A6i.below b6.drew A6i.lt
  have A8j : Ar V6.drew g8 27 .u8 A := A8i.below b6.drew A8i.lt
  have A9j : Ar V6.drew g9 27 .u8 B := A9i.below b6.drew A9i.lt
  clear A5i A6i A8i A9i ATi hTG eG rc2 b6 hF HV6 l4 hg5 l5 s5 hg6 l6 s6 z7 z8 sA hg8 l8 sB hg9 l9 sC hgT lT' sD zE zF zG kA kR cP cO cr
  refine Q.wp_region_facts [0, 1, 2, 3, 4, 5, 6, 7, 8, 9] (Gl [(fEq (.agg (fcells ⟨[], [], O2, []⟩))), (fEq (.pointer (some ⟨w.heap.size, 3, none⟩))), (fEq (.string ⟨T.toArray⟩)), (fEq (.string ⟨T2.toArray⟩)), (fEq (.pointer (some ⟨w.heap.size, 4, none⟩))), (fEq (.slice a n c)), (fRd X 60), (fEq (.int .i64 M)), (fEq (.tuple #[.string Yt, .int .i64 G])), (fEq (.tuple #[.string Yt, .int .i64 G]))]) 14 4 (by kernel_rfl) (by kernel_rfl) rfl (by kernel_rfl) (Q.lasts_list ?o49lst) ?o49ob ?_
  case o49lst =>
    intro g hg
    simp only [List.mem_cons, List.not_mem_nil, or_false] at hg
    rcases hg with rfl | rfl | rfl | rfl | rfl | rfl | rfl | rfl | rfl | rfl
    · exact Q.lasts_eq _
    · exact Q.lasts_eq _
    · exact Q.lasts_eq _
    · exact Q.lasts_eq _
    · exact Q.lasts_eq _
    · exact Q.lasts_eq _
    · exact Q.lasts_rd _ _
    · exact Q.lasts_eq _
    · exact Q.lasts_eq _
    · exact Q.lasts_eq _
  case o49ob =>
    refine (allIn_cons ?o490 (allIn_cons ?o491 (allIn_cons ?o492 (allIn_cons ?o493 (allIn_cons ?o494 (allIn_cons ?o495 (allIn_cons ?o496 (allIn_cons ?o497 (allIn_cons ?o498 (allIn_cons ?o499 allIn_nil))))))))))
    case o490 =>
      refine Q.ob_val 0 rfl rfl (by simp) (fun tm u h => ⟨?o49w0, ?_⟩)
      case o49w0 => exact wanted_none rfl
      have s12 : tm.getD 12 undef = .pointer (some ⟨wq.heap.size, 0, none⟩) := h.same 12 (of_decide_eq_true (by kernel_rfl))
      exact ⟨_, u, exec_load_row 35 (.tmp 12) rfl wq.heap.size s12 35 _ _ (hF6.below h.s) Tryz.underlying35 hi35, rfl, Below.refl _ _⟩
    case o491 =>
      refine Q.ob_val 1 rfl rfl (by simp) (fun tm u h => ⟨?o49w1, ?_⟩)
      case o49w1 => exact wanted_none rfl
      have s1 : tm.getD 1 undef = .pointer (some ⟨w.heap.size, 0, none⟩) := h.same 1 (of_decide_eq_true (by kernel_rfl))
      refine ⟨.pointer (some ⟨w.heap.size, 3, none⟩), u, ?_, rfl, Below.refl _ _⟩
      first | (go_simp; done) | (go_simp; rfl)
    case o492 =>
      refine Q.ob_val 2 rfl rfl (by simp) (fun tm u h => ⟨?o49w2, ?_⟩)
      case o49w2 => exact wanted_none rfl
      have f1 : tm.getD 50 undef = .pointer (some ⟨w.heap.size, 3, none⟩) := h.dep 1 _ _ (by simp) rfl rfl ⟨_, rfl, by kernel_rfl⟩
      have hc := (hT6.below h.s).c3
      refine ⟨_, u, ?_, rfl, Below.refl _ _⟩
      first | (go_simp; done) | (go_simp; rfl)
    case o493 =>
      refine Q.ob_call 3 rfl rfl (by simp) (fun tm u h => ⟨?o49w3, ?_⟩)
      case o49w3 => exact wanted_none rfl
      have f2 : tm.getD 51 undef = .string ⟨T.toArray⟩ := h.dep 2 _ _ (by simp) rfl rfl ⟨_, rfl, by kernel_rfl⟩
      refine ⟨12, #[.string ⟨T.toArray⟩], by first | (go_simp; done) | (go_simp; rfl), ?_⟩
      refine (cT u).mono ?_
      rintro e u2 ⟨rfl, rfl⟩
      exact ⟨_, rfl, rfl, Below.refl _ _⟩
    case o494 =>
      refine Q.ob_val 4 rfl rfl (by simp) (fun tm u h => ⟨?o49w4, ?_⟩)
      case o49w4 => exact wanted_none rfl
      have s1 : tm.getD 1 undef = .pointer (some ⟨w.heap.size, 0, none⟩) := h.same 1 (of_decide_eq_true (by kernel_rfl))
      refine ⟨.pointer (some ⟨w.heap.size, 4, none⟩), u, ?_, rfl, Below.refl _ _⟩
      first | (go_simp; done) | (go_simp; rfl)
    case o495 =>
      refine Q.ob_val 5 rfl rfl (by simp) (fun tm u h => ⟨?o49w5, ?_⟩)
      case o49w5 => exact wanted_none rfl
      have f4 : tm.getD 53 undef = .pointer (some ⟨w.heap.size, 4, none⟩) := h.dep 4 _ _ (by simp) rfl rfl ⟨_, rfl, by kernel_rfl⟩
      have hc := (hT6.below h.s).c4
      refine ⟨_, u, ?_, rfl, Below.refl _ _⟩
      first | (go_simp; done) | (go_simp; rfl)
    case o496 =>
      refine Q.ob_call 6 rfl rfl (by simp) (fun tm u h => ⟨?o49w6, ?_⟩)
      case o49w6 => exact wanted_none rfl
      have f5 : tm.getD 54 undef = .slice a n c := h.dep 5 _ _ (by simp) rfl rfl ⟨_, rfl, by kernel_rfl⟩
      refine ⟨9, #[.slice a n c], by first | (go_simp; done) | (go_simp; rfl), ?_⟩
      refine (cf u (hR6.carry (Nat.le_refl _) h.s)).mono ?_
      rintro e u2 ⟨a2, n2, c2, rfl, hn2, hr2, hb2⟩
      exact ⟨_, rfl, ⟨a2, n2, c2, rfl, hn2, hr2⟩, hb2⟩
    case o497 =>
      refine Q.ob_val 7 rfl rfl (by simp) (fun tm u h => ⟨?o49w7, ?_⟩)
      case o49w7 => exact wanted_none rfl
      have s3 : tm.getD 3 undef = .int .i64 M := h.same 3 (of_decide_eq_true (by kernel_rfl))
      exact ⟨.int .i64 M, u, by first | (go_simp; done) | (go_simp; rfl), rfl, Below.refl _ _⟩
    case o498 =>
      refine Q.ob_call 8 rfl rfl (by simp) (fun tm u h => ⟨?o49w8, ?_⟩)
      case o49w8 => exact wanted_none rfl
      have f0 : tm.getD 49 undef = .agg (fcells ⟨[], [], O2, []⟩) := h.dep 0 _ _ (by simp) rfl rfl ⟨_, rfl, by kernel_rfl⟩
      have f3 : tm.getD 52 undef = .string ⟨T2.toArray⟩ := h.dep 3 _ _ (by simp) rfl rfl ⟨_, rfl, by kernel_rfl⟩
      obtain ⟨a6, n6, c6, f6, hn6, hr6⟩ : fRd X 60 (tm.getD 55 undef) u := h.dep 6 _ _ (by simp) rfl rfl ⟨_, rfl, by kernel_rfl⟩
      have f7 : tm.getD 56 undef = .int .i64 M := h.dep 7 _ _ (by simp) rfl rfl ⟨_, rfl, by kernel_rfl⟩
      refine ⟨11, #[.agg (fcells ⟨[], [], O2, []⟩), .string ⟨T2.toArray⟩, .slice a6 n6 c6, .int .i64 M], by first | (go_simp; done) | (go_simp; rfl), ?_⟩
      refine (kC a6 n6 c6 u hr6 (by omega) (hP6.below h.s)).mono ?_
      rintro e u2 ⟨rfl, hb2⟩
      exact ⟨_, rfl, rfl, hb2⟩
    case o499 =>
      refine Q.ob_val 9 rfl rfl (by simp) (fun tm u h => ⟨?o49w9, ?_⟩)
      case o49w9 => exact wanted_none rfl
      have f8 : tm.getD 57 undef = .tuple #[.string Yt, .int .i64 G] := h.dep 8 _ _ (by simp) rfl rfl ⟨_, rfl, by kernel_rfl⟩
      refine ⟨.tuple #[.string Yt, .int .i64 G], u, ?_, rfl, Below.refl _ _⟩
      first | (go_simp; done) | (go_simp; rfl)
  intro af wf hAO
  have p1 : af.tmps.getD 1 undef = .pointer (some ⟨w.heap.size, 0, none⟩) := hAO.same 1 (of_decide_eq_true (by kernel_rfl))
  have p3 : af.tmps.getD 3 undef = .int .i64 M := hAO.same 3 (of_decide_eq_true (by kernel_rfl))
  have p5 : af.tmps.getD 5 undef = .pointer (some ⟨g5, 0, none⟩) := hAO.same 5 (of_decide_eq_true (by kernel_rfl))
  have p6 : af.tmps.getD 6 undef = .pointer (some ⟨g6, 0, none⟩) := hAO.same 6 (of_decide_eq_true (by kernel_rfl))
  have p7 : af.tmps.getD 7 undef = .int .i64 E := hAO.same 7 (of_decide_eq_true (by kernel_rfl))
  have p8 : af.tmps.getD 8 undef = .pointer (some ⟨g8, 0, none⟩) := hAO.same 8 (of_decide_eq_true (by kernel_rfl))
  have p9 : af.tmps.getD 9 undef = .pointer (some ⟨g9, 0, none⟩) := hAO.same 9 (of_decide_eq_true (by kernel_rfl))
  have p11 : af.tmps.getD 11 undef = .int .i64 E := hAO.same 11 (of_decide_eq_true (by kernel_rfl))
  have p12 : af.tmps.getD 12 undef = .pointer (some ⟨wq.heap.size, 0, none⟩) := hAO.same 12 (of_decide_eq_true (by kernel_rfl))
  have pQ : af.tmps.getD 48 undef = .tuple #[.string Yt, .int .i64 G] := hAO.got 9 _ _ rfl (by simp) rfl rfl
  have hs := hAO.s
  obtain ⟨tm, dfx⟩ := af
  obtain rfl : dfx = [] := hAO.df
  have hsz : tm.size = 98 := hAO.sz
  clear hAO
  have eF : tm = #[tm.getD 0 undef, tm.getD 1 undef, tm.getD 2 undef, tm.getD 3 undef, tm.getD 4 undef, tm.getD 5 undef, tm.getD 6 undef, tm.getD 7 undef, tm.getD 8 undef, tm.getD 9 undef, tm.getD 10 undef, tm.getD 11 undef, tm.getD 12 undef, tm.getD 13 undef, tm.getD 14 undef, tm.getD 15 undef, tm.getD 16 undef, tm.getD 17 undef, tm.getD 18 undef, tm.getD 19 undef, tm.getD 20 undef, tm.getD 21 undef, tm.getD 22 undef, tm.getD 23 undef, tm.getD 24 undef, tm.getD 25 undef, tm.getD 26 undef, tm.getD 27 undef, tm.getD 28 undef, tm.getD 29 undef, tm.getD 30 undef, tm.getD 31 undef, tm.getD 32 undef, tm.getD 33 undef, tm.getD 34 undef, tm.getD 35 undef, tm.getD 36 undef, tm.getD 37 undef, tm.getD 38 undef, tm.getD 39 undef, tm.getD 40 undef, tm.getD 41 undef, tm.getD 42 undef, tm.getD 43 undef, tm.getD 44 undef, tm.getD 45 undef, tm.getD 46 undef, tm.getD 47 undef, tm.getD 48 undef, tm.getD 49 undef, tm.getD 50 undef, tm.getD 51 undef, tm.getD 52 undef, tm.getD 53 undef, tm.getD 54 undef, tm.getD 55 undef, tm.getD 56 undef, tm.getD 57 undef, tm.getD 58 undef, tm.getD 59 undef, tm.getD 60 undef, tm.getD 61 undef, tm.getD 62 undef, tm.getD 63 undef, tm.getD 64 undef, tm.getD 65 undef, tm.getD 66 undef, tm.getD 67 undef, tm.getD 68 undef, tm.getD 69 undef, tm.getD 70 undef, tm.getD 71 undef, tm.getD 72 undef, tm.getD 73 undef, tm.getD 74 undef, tm.getD 75 undef, tm.getD 76 undef, tm.getD 77 undef, tm.getD 78 undef, tm.getD 79 undef, tm.getD 80 undef, tm.getD 81 undef, tm.getD 82 undef, tm.getD 83 undef, tm.getD 84 undef, tm.getD 85 undef, tm.getD 86 undef, tm.getD 87 undef, tm.getD 88 undef, tm.getD 89 undef, tm.getD 90 undef, tm.getD 91 undef, tm.getD 92 undef, tm.getD 93 undef, tm.getD 94 undef, tm.getD 95 undef, tm.getD 96 undef, tm.getD 97 undef] := eta_arr tm 98 hsz
  try dsimp only at eF
  have kF1 : tm.getD 1 undef = .pointer (some ⟨w.heap.size, 0, none⟩) := p1
  have kF3 : tm.getD 3 undef = .int .i64 M := p3
  have kF5 : tm.getD 5 undef = .pointer (some ⟨g5, 0, none⟩) := p5
  have kF6 : tm.getD 6 undef = .pointer (some ⟨g6, 0, none⟩) := p6
  have kF7 : tm.getD 7 undef = .int .i64 E := p7
  have kF8 : tm.getD 8 undef = .pointer (some ⟨g8, 0, none⟩) := p8
  have kF9 : tm.getD 9 undef = .pointer (some ⟨g9, 0, none⟩) := p9
  have kF11 : tm.getD 11 undef = .int .i64 E := p11
  have kF12 : tm.getD 12 undef = .pointer (some ⟨wq.heap.size, 0, none⟩) := p12
  have kF48 : tm.getD 48 undef = .tuple #[.string Yt, .int .i64 G] := pQ
  rw [kF1, kF3, kF5, kF6, kF7, kF8, kF9, kF11, kF12, kF48] at eF
  clear kF1 kF3 kF5 kF6 kF7 kF8 kF9 kF11 kF12 kF48
  generalize tm.getD 0 undef = vF0 at eF
  generalize tm.getD 2 undef = vF2 at eF
  generalize tm.getD 4 undef = vF4 at eF
  generalize tm.getD 10 undef = vF10 at eF
  generalize tm.getD 13 undef = vF13 at eF
  generalize tm.getD 14 undef = vF14 at eF
  generalize tm.getD 15 undef = vF15 at eF
  generalize tm.getD 16 undef = vF16 at eF
  generalize tm.getD 17 undef = vF17 at eF
  generalize tm.getD 18 undef = vF18 at eF
  generalize tm.getD 19 undef = vF19 at eF
  generalize tm.getD 20 undef = vF20 at eF
  generalize tm.getD 21 undef = vF21 at eF
  generalize tm.getD 22 undef = vF22 at eF
  generalize tm.getD 23 undef = vF23 at eF
  generalize tm.getD 24 undef = vF24 at eF
  generalize tm.getD 25 undef = vF25 at eF
  generalize tm.getD 26 undef = vF26 at eF
  generalize tm.getD 27 undef = vF27 at eF
  generalize tm.getD 28 undef = vF28 at eF
  generalize tm.getD 29 undef = vF29 at eF
  generalize tm.getD 30 undef = vF30 at eF
  generalize tm.getD 31 undef = vF31 at eF
  generalize tm.getD 32 undef = vF32 at eF
  generalize tm.getD 33 undef = vF33 at eF
  generalize tm.getD 34 undef = vF34 at eF
  generalize tm.getD 35 undef = vF35 at eF
  generalize tm.getD 36 undef = vF36 at eF
  generalize tm.getD 37 undef = vF37 at eF
  generalize tm.getD 38 undef = vF38 at eF
  generalize tm.getD 39 undef = vF39 at eF
  generalize tm.getD 40 undef = vF40 at eF
  generalize tm.getD 41 undef = vF41 at eF
  generalize tm.getD 42 undef = vF42 at eF
  generalize tm.getD 43 undef = vF43 at eF
  generalize tm.getD 44 undef = vF44 at eF
  generalize tm.getD 45 undef = vF45 at eF
  generalize tm.getD 46 undef = vF46 at eF
  generalize tm.getD 47 undef = vF47 at eF
  generalize tm.getD 49 undef = vF49 at eF
  generalize tm.getD 50 undef = vF50 at eF
  generalize tm.getD 51 undef = vF51 at eF
  generalize tm.getD 52 undef = vF52 at eF
  generalize tm.getD 53 undef = vF53 at eF
  generalize tm.getD 54 undef = vF54 at eF
  generalize tm.getD 55 undef = vF55 at eF
  generalize tm.getD 56 undef = vF56 at eF
  generalize tm.getD 57 undef = vF57 at eF
  generalize tm.getD 58 undef = vF58 at eF
  generalize tm.getD 59 undef = vF59 at eF
  generalize tm.getD 60 undef = vF60 at eF
  generalize tm.getD 61 undef = vF61 at eF
  generalize tm.getD 62 undef = vF62 at eF
  generalize tm.getD 63 undef = vF63 at eF
  generalize tm.getD 64 undef = vF64 at eF
  generalize tm.getD 65 undef = vF65 at eF
  generalize tm.getD 66 undef = vF66 at eF
  generalize tm.getD 67 undef = vF67 at eF
  generalize tm.getD 68 undef = vF68 at eF
  generalize tm.getD 69 undef = vF69 at eF
  generalize tm.getD 70 undef = vF70 at eF
  generalize tm.getD 71 undef = vF71 at eF
  generalize tm.getD 72 undef = vF72 at eF
  generalize tm.getD 73 undef = vF73 at eF
  generalize tm.getD 74 undef = vF74 at eF
  generalize tm.getD 75 undef = vF75 at eF
  generalize tm.getD 76 undef = vF76 at eF
  generalize tm.getD 77 undef = vF77 at eF
  generalize tm.getD 78 undef = vF78 at eF
  generalize tm.getD 79 undef = vF79 at eF
  generalize tm.getD 80 undef = vF80 at eF
  generalize tm.getD 81 undef = vF81 at eF
  generalize tm.getD 82 undef = vF82 at eF
  generalize tm.getD 83 undef = vF83 at eF
  generalize tm.getD 84 undef = vF84 at eF
  generalize tm.getD 85 undef = vF85 at eF
  generalize tm.getD 86 undef = vF86 at eF
  generalize tm.getD 87 undef = vF87 at eF
  generalize tm.getD 88 undef = vF88 at eF
  generalize tm.getD 89 undef = vF89 at eF
  generalize tm.getD 90 undef = vF90 at eF
  generalize tm.getD 91 undef = vF91 at eF
  generalize tm.getD 92 undef = vF92 at eF
  generalize tm.getD 93 undef = vF93 at eF
  generalize tm.getD 94 undef = vF94 at eF
  generalize tm.getD 95 undef = vF95 at eF
  generalize tm.getD 96 undef = vF96 at eF
  generalize tm.getD 97 undef = vF97 at eF
  subst eF
  have HT : True := trivial
  refine lx_rd 10 (.string Yt) (by kernel_rfl) (fun _ _ d _ _ h => by cases d <;> exact h) (by kernel_rfl) HT rfl rfl rfl (fun w' hS => ?hRA10) ?_
  case hRA10 => first | (go_simp; rfl) | go_simp
  simp only [List.setIfInBounds_toArray, List.set_cons_zero, List.set_cons_succ]
  refine lx_rd 11 (.int .i64 G) (by kernel_rfl) (fun _ _ d _ _ h => by cases d <;> exact h) (by kernel_rfl) HT rfl rfl rfl (fun w' hS => ?hRA11) ?_
  case hRA11 => first | (go_simp; rfl) | go_simp
  simp only [List.setIfInBounds_toArray, List.set_cons_zero, List.set_cons_succ]
  refine lx_one 12 (by kernel_rfl) (stepT_val (w' := wf) (.string Yt) rfl rfl rfl (by first | (go_simp; done) | (go_simp; rfl)) (fun _ => trivial) ?_)
  refine lx_one 13 (by kernel_rfl) (stepT_val (w' := wf) (.int .i64 G) rfl rfl rfl (by first | (go_simp; done) | (go_simp; rfl)) (fun _ => trivial) ?_)
  refine lx_nil (by kernel_rfl) ?_
  simp only [List.setIfInBounds_toArray, List.set_cons_zero, List.set_cons_succ]
  have eW : Hid (Below w.heap.size w wf.drew) := (eV.out.trans (hs.mono eV.out.size)).drew
  have hF7 : FAt wf.drew wq.heap.size (.string ⟨#[]⟩) (.string ⟨#[]⟩) (.string ⟨O2.toArray⟩) (.string ⟨#[]⟩) := hF6.below hs.drew
  have hT7 : TkAt wf.drew w.heap.size (.string ⟨P.toArray⟩) (.string ⟨U.toArray⟩) (.string ⟨O.toArray⟩) (.string ⟨T.toArray⟩) (.slice a n c) (.int .i64 N) := hT6.below hs.drew
  have hR7 := hR.carry (Nat.le_refl _) eW.out
  have A5k : Ar wf.drew g5 27 .u8 A := A5j.below hs.drew A5j.lt
  have A6k : Ar wf.drew g6 27 .u8 B := A6j.below hs.drew A6j.lt
  have A8k : Ar wf.drew g8 27 .u8 A := A8j.below hs.drew A8j.lt
  have A9k : Ar wf.drew g9 27 .u8 B := A9j.below hs.drew A9j.lt
  clear A5j A6j A8j A9j hF6 hT6 hR6 hP6 eV hs kC HT
  go_wp2_with fail
  refine Q.wp_region_facts [0, 1, 2, 3, 4, 5, 6, 7, 8, 9] (Gl [(fEq (.agg (fcells ⟨[], [], O2, []⟩))), (fEq (.pointer (some ⟨w.heap.size, 3, none⟩))), (fEq (.string ⟨T.toArray⟩)), (fEq (.string ⟨T2.toArray⟩)), (fEq (.pointer (some ⟨w.heap.size, 4, none⟩))), (fEq (.slice a n c)), (fRd X 60), (fEq (.int .i64 M)), (fEq (.tuple #[.string Yt, .int .i64 G])), (fEq (.tuple #[.string Yt, .int .i64 G]))]) 14 4 (by kernel_rfl) (by kernel_rfl) rfl (by kernel_rfl) (Q.lasts_list ?o61lst) ?o61ob ?_
  case o61lst =>
    intro g hg
    simp only [List.mem_cons, List.not_mem_nil, or_false] at hg
    rcases hg with rfl | rfl | rfl | rfl | rfl | rfl | rfl | rfl | rfl | rfl
    · exact Q.lasts_eq _
    · exact Q.lasts_eq _
    · exact Q.lasts_eq _
    · exact Q.lasts_eq _
    · exact Q.lasts_eq _
    · exact Q.lasts_eq _
    · exact Q.lasts_rd _ _
    · exact Q.lasts_eq _
    · exact Q.lasts_eq _
    · exact Q.lasts_eq _
  case o61ob =>
    refine (allIn_cons ?o610 (allIn_cons ?o611 (allIn_cons ?o612 (allIn_cons ?o613 (allIn_cons ?o614 (allIn_cons ?o615 (allIn_cons ?o616 (allIn_cons ?o617 (allIn_cons ?o618 (allIn_cons ?o619 allIn_nil))))))))))
    case o610 =>
      refine Q.ob_val 0 rfl rfl (by simp) (fun tm u h => ⟨?o61w0, ?_⟩)
      case o61w0 => exact wanted_none rfl
      have s12 : tm.getD 12 undef = .pointer (some ⟨wq.heap.size, 0, none⟩) := h.same 12 (of_decide_eq_true (by kernel_rfl))
      exact ⟨_, u, exec_load_row 35 (.tmp 12) rfl wq.heap.size s12 35 _ _ (hF7.below h.s) Tryz.underlying35 hi35, rfl, Below.refl _ _⟩
    case o611 =>
      refine Q.ob_val 1 rfl rfl (by simp) (fun tm u h => ⟨?o61w1, ?_⟩)
      case o61w1 => exact wanted_none rfl
      have s1 : tm.getD 1 undef = .pointer (some ⟨w.heap.size, 0, none⟩) := h.same 1 (of_decide_eq_true (by kernel_rfl))
      refine ⟨.pointer (some ⟨w.heap.size, 3, none⟩), u, ?_, rfl, Below.refl _ _⟩
      first | (go_simp; done) | (go_simp; rfl)
    case o612 =>
      refine Q.ob_val 2 rfl rfl (by simp) (fun tm u h => ⟨?o61w2, ?_⟩)
      case o61w2 => exact wanted_none rfl
      have f1 : tm.getD 62 undef = .pointer (some ⟨w.heap.size, 3, none⟩) := h.dep 1 _ _ (by simp) rfl rfl ⟨_, rfl, by kernel_rfl⟩
      have hc := (hT7.below h.s).c3
      refine ⟨_, u, ?_, rfl, Below.refl _ _⟩
      first | (go_simp; done) | (go_simp; rfl)
    case o613 =>
      refine Q.ob_call 3 rfl rfl (by simp) (fun tm u h => ⟨?o61w3, ?_⟩)
      case o61w3 => exact wanted_none rfl
      have f2 : tm.getD 63 undef = .string ⟨T.toArray⟩ := h.dep 2 _ _ (by simp) rfl rfl ⟨_, rfl, by kernel_rfl⟩
      refine ⟨12, #[.string ⟨T.toArray⟩], by first | (go_simp; done) | (go_simp; rfl), ?_⟩
      refine (cT u).mono ?_
      rintro e u2 ⟨rfl, rfl⟩
      exact ⟨_, rfl, rfl, Below.refl _ _⟩
    case o614 =>
      refine Q.ob_val 4 rfl rfl (by simp) (fun tm u h => ⟨?o61w4, ?_⟩)
      case o61w4 => exact wanted_none rfl
      have s1 : tm.getD 1 undef = .pointer (some ⟨w.heap.size, 0, none⟩) := h.same 1 (of_decide_eq_true (by kernel_rfl))
      refine ⟨.pointer (some ⟨w.heap.size, 4, none⟩), u, ?_, rfl, Below.refl _ _⟩
      first | (go_simp; done) | (go_simp; rfl)
    case o615 =>
      refine Q.ob_val 5 rfl rfl (by simp) (fun tm u h => ⟨?o61w5, ?_⟩)
      case o61w5 => exact wanted_none rfl
      have f4 : tm.getD 65 undef = .pointer (some ⟨w.heap.size, 4, none⟩) := h.dep 4 _ _ (by simp) rfl rfl ⟨_, rfl, by kernel_rfl⟩
      have hc := (hT7.below h.s).c4
      refine ⟨_, u, ?_, rfl, Below.refl _ _⟩
      first | (go_simp; done) | (go_simp; rfl)
    case o616 =>
      refine Q.ob_call 6 rfl rfl (by simp) (fun tm u h => ⟨?o61w6, ?_⟩)
      case o61w6 => exact wanted_none rfl
      have f5 : tm.getD 66 undef = .slice a n c := h.dep 5 _ _ (by simp) rfl rfl ⟨_, rfl, by kernel_rfl⟩
      refine ⟨9, #[.slice a n c], by first | (go_simp; done) | (go_simp; rfl), ?_⟩
      refine (cf u (hR7.carry (Nat.le_refl _) h.s)).mono ?_
      rintro e u2 ⟨a2, n2, c2, rfl, hn2, hr2, hb2⟩
      exact ⟨_, rfl, ⟨a2, n2, c2, rfl, hn2, hr2⟩, hb2⟩
    case o617 =>
      refine Q.ob_val 7 rfl rfl (by simp) (fun tm u h => ⟨?o61w7, ?_⟩)
      case o61w7 => exact wanted_none rfl
      have s3 : tm.getD 3 undef = .int .i64 M := h.same 3 (of_decide_eq_true (by kernel_rfl))
      exact ⟨.int .i64 M, u, by first | (go_simp; done) | (go_simp; rfl), rfl, Below.refl _ _⟩
    case o618 =>
      refine Q.ob_call 8 rfl rfl (by simp) (fun tm u h => ⟨?o61w8, ?_⟩)
      case o61w8 => exact wanted_none rfl
      have f0 : tm.getD 61 undef = .agg (fcells ⟨[], [], O2, []⟩) := h.dep 0 _ _ (by simp) rfl rfl ⟨_, rfl, by kernel_rfl⟩
      have f3 : tm.getD 64 undef = .string ⟨T2.toArray⟩ := h.dep 3 _ _ (by simp) rfl rfl ⟨_, rfl, by kernel_rfl⟩
      obtain ⟨a6, n6, c6, f6, hn6, hr6⟩ : fRd X 60 (tm.getD 67 undef) u := h.dep 6 _ _ (by simp) rfl rfl ⟨_, rfl, by kernel_rfl⟩
      have f7 : tm.getD 68 undef = .int .i64 M := h.dep 7 _ _ (by simp) rfl rfl ⟨_, rfl, by kernel_rfl⟩
      refine ⟨13, #[.agg (fcells ⟨[], [], O2, []⟩), .string ⟨T2.toArray⟩, .slice a6 n6 c6, .int .i64 M], by first | (go_simp; done) | (go_simp; rfl), ?_⟩
      refine (kD a6 n6 c6 u hr6 (by omega)).mono ?_
      rintro e u2 ⟨rfl, hb2⟩
      exact ⟨_, rfl, rfl, hb2⟩
    case o619 =>
      refine Q.ob_val 9 rfl rfl (by simp) (fun tm u h => ⟨?o61w9, ?_⟩)
      case o61w9 => exact wanted_none rfl
      have f8 : tm.getD 69 undef = .tuple #[.string Yt, .int .i64 G] := h.dep 8 _ _ (by simp) rfl rfl ⟨_, rfl, by kernel_rfl⟩
      refine ⟨.tuple #[.string Yt, .int .i64 G], u, ?_, rfl, Below.refl _ _⟩
      first | (go_simp; done) | (go_simp; rfl)
  intro af wg hAO
  have p1 : af.tmps.getD 1 undef = .pointer (some ⟨w.heap.size, 0, none⟩) := hAO.same 1 (of_decide_eq_true (by kernel_rfl))
  have p3 : af.tmps.getD 3 undef = .int .i64 M := hAO.same 3 (of_decide_eq_true (by kernel_rfl))
  have p5 : af.tmps.getD 5 undef = .pointer (some ⟨g5, 0, none⟩) := hAO.same 5 (of_decide_eq_true (by kernel_rfl))
  have p6 : af.tmps.getD 6 undef = .pointer (some ⟨g6, 0, none⟩) := hAO.same 6 (of_decide_eq_true (by kernel_rfl))
  have p7 : af.tmps.getD 7 undef = .int .i64 E := hAO.same 7 (of_decide_eq_true (by kernel_rfl))
  have p8 : af.tmps.getD 8 undef = .pointer (some ⟨g8, 0, none⟩) := hAO.same 8 (of_decide_eq_true (by kernel_rfl))
  have p9 : af.tmps.getD 9 undef = .pointer (some ⟨g9, 0, none⟩) := hAO.same 9 (of_decide_eq_true (by kernel_rfl))
  have p11 : af.tmps.getD 11 undef = .int .i64 E := hAO.same 11 (of_decide_eq_true (by kernel_rfl))
  have p12 : af.tmps.getD 12 undef = .pointer (some ⟨wq.heap.size, 0, none⟩) := hAO.same 12 (of_decide_eq_true (by kernel_rfl))
  have p13 : af.tmps.getD 13 undef = .string Yt := hAO.same 13 (of_decide_eq_true (by kernel_rfl))
  have p14 : af.tmps.getD 14 undef = .int .i64 G := hAO.same 14 (of_decide_eq_true (by kernel_rfl))
  have pQ : af.tmps.getD 60 undef = .tuple #[.string Yt, .int .i64 G] := hAO.got 9 _ _ rfl (by simp) rfl rfl
  have hs := hAO.s
  obtain ⟨tm, dfx⟩ := af
  obtain rfl : dfx = [] := hAO.df
  have hsz : tm.size = 98 := hAO.sz
  clear hAO
  have eF : tm = #[tm.getD 0 undef, tm.getD 1 undef, tm.getD 2 undef, tm.getD 3 undef, tm.getD 4 undef, tm.getD 5 undef, tm.getD 6 undef, tm.getD 7 undef, tm.getD 8 undef, tm.getD 9 undef, tm.getD 10 undef, tm.getD 11 undef, tm.getD 12 undef, tm.getD 13 undef, tm.getD 14 undef, tm.getD 15 undef, tm.getD 16 undef, tm.getD 17 undef, tm.getD 18 undef, tm.getD 19 undef, tm.getD 20 undef, tm.getD 21 undef, tm.getD 22 undef, tm.getD 23 undef, tm.getD 24 undef, tm.getD 25 undef, tm.getD 26 undef, tm.getD 27 undef, tm.getD 28 undef, tm.getD 29 undef, tm.getD 30 undef, tm.getD 31 undef, tm.getD 32 undef, tm.getD 33 undef, tm.getD 34 undef, tm.getD 35 undef, tm.getD 36 undef, tm.getD 37 undef, tm.getD 38 undef, tm.getD 39 undef, tm.getD 40 undef, tm.getD 41 undef, tm.getD 42 undef, tm.getD 43 undef, tm.getD 44 undef, tm.getD 45 undef, tm.getD 46 undef, tm.getD 47 undef, tm.getD 48 undef, tm.getD 49 undef, tm.getD 50 undef, tm.getD 51 undef, tm.getD 52 undef, tm.getD 53 undef, tm.getD 54 undef, tm.getD 55 undef, tm.getD 56 undef, tm.getD 57 undef, tm.getD 58 undef, tm.getD 59 undef, tm.getD 60 undef, tm.getD 61 undef, tm.getD 62 undef, tm.getD 63 undef, tm.getD 64 undef, tm.getD 65 undef, tm.getD 66 undef, tm.getD 67 undef, tm.getD 68 undef, tm.getD 69 undef, tm.getD 70 undef, tm.getD 71 undef, tm.getD 72 undef, tm.getD 73 undef, tm.getD 74 undef, tm.getD 75 undef, tm.getD 76 undef, tm.getD 77 undef, tm.getD 78 undef, tm.getD 79 undef, tm.getD 80 undef, tm.getD 81 undef, tm.getD 82 undef, tm.getD 83 undef, tm.getD 84 undef, tm.getD 85 undef, tm.getD 86 undef, tm.getD 87 undef, tm.getD 88 undef, tm.getD 89 undef, tm.getD 90 undef, tm.getD 91 undef, tm.getD 92 undef, tm.getD 93 undef, tm.getD 94 undef, tm.getD 95 undef, tm.getD 96 undef, tm.getD 97 undef] := eta_arr tm 98 hsz
  try dsimp only at eF
  have kF1 : tm.getD 1 undef = .pointer (some ⟨w.heap.size, 0, none⟩) := p1
  have kF3 : tm.getD 3 undef = .int .i64 M := p3
  have kF5 : tm.getD 5 undef = .pointer (some ⟨g5, 0, none⟩) := p5
  have kF6 : tm.getD 6 undef = .pointer (some ⟨g6, 0, none⟩) := p6
  have kF7 : tm.getD 7 undef = .int .i64 E := p7
  have kF8 : tm.getD 8 undef = .pointer (some ⟨g8, 0, none⟩) := p8
  have kF9 : tm.getD 9 undef = .pointer (some ⟨g9, 0, none⟩) := p9
  have kF11 : tm.getD 11 undef = .int .i64 E := p11
  have kF12 : tm.getD 12 undef = .pointer (some ⟨wq.heap.size, 0, none⟩) := p12
  have kF13 : tm.getD 13 undef = .string Yt := p13
  have kF14 : tm.getD 14 undef = .int .i64 G := p14
  have kF60 : tm.getD 60 undef = .tuple #[.string Yt, .int .i64 G] := pQ
  rw [kF1, kF3, kF5, kF6, kF7, kF8, kF9, kF11, kF12, kF13, kF14, kF60] at eF
  clear kF1 kF3 kF5 kF6 kF7 kF8 kF9 kF11 kF12 kF13 kF14 kF60
  generalize tm.getD 0 undef = vF0 at eF
  generalize tm.getD 2 undef = vF2 at eF
  generalize tm.getD 4 undef = vF4 at eF
  generalize tm.getD 10 undef = vF10 at eF
  generalize tm.getD 15 undef = vF15 at eF
  generalize tm.getD 16 undef = vF16 at eF
  generalize tm.getD 17 undef = vF17 at eF
  generalize tm.getD 18 undef = vF18 at eF
  generalize tm.getD 19 undef = vF19 at eF
  generalize tm.getD 20 undef = vF20 at eF
  generalize tm.getD 21 undef = vF21 at eF
  generalize tm.getD 22 undef = vF22 at eF
  generalize tm.getD 23 undef = vF23 at eF
  generalize tm.getD 24 undef = vF24 at eF
  generalize tm.getD 25 undef = vF25 at eF
  generalize tm.getD 26 undef = vF26 at eF
  generalize tm.getD 27 undef = vF27 at eF
  generalize tm.getD 28 undef = vF28 at eF
  generalize tm.getD 29 undef = vF29 at eF
  generalize tm.getD 30 undef = vF30 at eF
  generalize tm.getD 31 undef = vF31 at eF
  generalize tm.getD 32 undef = vF32 at eF
  generalize tm.getD 33 undef = vF33 at eF
  generalize tm.getD 34 undef = vF34 at eF
  generalize tm.getD 35 undef = vF35 at eF
  generalize tm.getD 36 undef = vF36 at eF
  generalize tm.getD 37 undef = vF37 at eF
  generalize tm.getD 38 undef = vF38 at eF
  generalize tm.getD 39 undef = vF39 at eF
  generalize tm.getD 40 undef = vF40 at eF
  generalize tm.getD 41 undef = vF41 at eF
  generalize tm.getD 42 undef = vF42 at eF
  generalize tm.getD 43 undef = vF43 at eF
  generalize tm.getD 44 undef = vF44 at eF
  generalize tm.getD 45 undef = vF45 at eF
  generalize tm.getD 46 undef = vF46 at eF
  generalize tm.getD 47 undef = vF47 at eF
  generalize tm.getD 48 undef = vF48 at eF
  generalize tm.getD 49 undef = vF49 at eF
  generalize tm.getD 50 undef = vF50 at eF
  generalize tm.getD 51 undef = vF51 at eF
  generalize tm.getD 52 undef = vF52 at eF
  generalize tm.getD 53 undef = vF53 at eF
  generalize tm.getD 54 undef = vF54 at eF
  generalize tm.getD 55 undef = vF55 at eF
  generalize tm.getD 56 undef = vF56 at eF
  generalize tm.getD 57 undef = vF57 at eF
  generalize tm.getD 58 undef = vF58 at eF
  generalize tm.getD 59 undef = vF59 at eF
  generalize tm.getD 61 undef = vF61 at eF
  generalize tm.getD 62 undef = vF62 at eF
  generalize tm.getD 63 undef = vF63 at eF
  generalize tm.getD 64 undef = vF64 at eF
  generalize tm.getD 65 undef = vF65 at eF
  generalize tm.getD 66 undef = vF66 at eF
  generalize tm.getD 67 undef = vF67 at eF
  generalize tm.getD 68 undef = vF68 at eF
  generalize tm.getD 69 undef = vF69 at eF
  generalize tm.getD 70 undef = vF70 at eF
  generalize tm.getD 71 undef = vF71 at eF
  generalize tm.getD 72 undef = vF72 at eF
  generalize tm.getD 73 undef = vF73 at eF
  generalize tm.getD 74 undef = vF74 at eF
  generalize tm.getD 75 undef = vF75 at eF
  generalize tm.getD 76 undef = vF76 at eF
  generalize tm.getD 77 undef = vF77 at eF
  generalize tm.getD 78 undef = vF78 at eF
  generalize tm.getD 79 undef = vF79 at eF
  generalize tm.getD 80 undef = vF80 at eF
  generalize tm.getD 81 undef = vF81 at eF
  generalize tm.getD 82 undef = vF82 at eF
  generalize tm.getD 83 undef = vF83 at eF
  generalize tm.getD 84 undef = vF84 at eF
  generalize tm.getD 85 undef = vF85 at eF
  generalize tm.getD 86 undef = vF86 at eF
  generalize tm.getD 87 undef = vF87 at eF
  generalize tm.getD 88 undef = vF88 at eF
  generalize tm.getD 89 undef = vF89 at eF
  generalize tm.getD 90 undef = vF90 at eF
  generalize tm.getD 91 undef = vF91 at eF
  generalize tm.getD 92 undef = vF92 at eF
  generalize tm.getD 93 undef = vF93 at eF
  generalize tm.getD 94 undef = vF94 at eF
  generalize tm.getD 95 undef = vF95 at eF
  generalize tm.getD 96 undef = vF96 at eF
  generalize tm.getD 97 undef = vF97 at eF
  subst eF
  have HT : True := trivial
  refine lx_rd 10 (.string Yt) (by kernel_rfl) (fun _ _ d _ _ h => by cases d <;> exact h) (by kernel_rfl) HT rfl rfl rfl (fun w' hS => ?hRB10) ?_
  case hRB10 => first | (go_simp; rfl) | go_simp
  simp only [List.setIfInBounds_toArray, List.set_cons_zero, List.set_cons_succ]
  refine lx_rd 11 (.int .i64 G) (by kernel_rfl) (fun _ _ d _ _ h => by cases d <;> exact h) (by kernel_rfl) HT rfl rfl rfl (fun w' hS => ?hRB11) ?_
  case hRB11 => first | (go_simp; rfl) | go_simp
  simp only [List.setIfInBounds_toArray, List.set_cons_zero, List.set_cons_succ]
  refine lx_one 12 (by kernel_rfl) (stepT_val (w' := wg) (.string Yt) rfl rfl rfl (by first | (go_simp; done) | (go_simp; rfl)) (fun _ => trivial) ?_)
  refine lx_one 13 (by kernel_rfl) (stepT_val (w' := wg) (.int .i64 G) rfl rfl rfl (by first | (go_simp; done) | (go_simp; rfl)) (fun _ => trivial) ?_)
  refine lx_nil (by kernel_rfl) ?_
  simp only [List.setIfInBounds_toArray, List.set_cons_zero, List.set_cons_succ]
  have eX : Below w.heap.size w wg := eW.out.trans (hs.mono eW.out.size)
  have A5m := A5k.below hs A5k.lt
  have A6m := A6k.below hs A6k.lt
  have A8m := A8k.below hs A8k.lt
  have A9m := A9k.below hs A9k.lt
  clear A5k A6k A8k A9k hF7 hT7 hR7 eW hs kD HT cT cf hR hK HPw
  go_wp2_with (first
    | (refine wp_load_ar rfl 27 (.tmp 5) rfl g5 rfl 27 .u8 A 5 32 A5m Tryz.u23 lA ?_)
    | (refine wp_load_ar rfl 27 (.tmp 8) rfl g8 rfl 27 .u8 A 5 32 A8m Tryz.u23 lA ?_)
    | (refine wp_eql23 rfl (.tmp 72) (.tmp 73) rfl A A rfl rfl lA lA ?_; rw [show decide (A = A) = true from by simp])
    | (refine wp_load_arW rfl 27 (.tmp 6) rfl g6 rfl 27 .u8 B 5 32 A6m Tryz.u23 lB ?_)
    | (refine wp_load_arW rfl 27 (.tmp 9) rfl g9 rfl 27 .u8 B 5 32 A9m Tryz.u23 lB ?_)
    | (refine wp_eql23W rfl (.tmp 76) (.tmp 77) rfl B B rfl rfl lB lB ?_; rw [show decide (B = B) = true from by simp])
    | (go_at_call 14; refine (HcW.out _ eX).mono ?_; rintro e W8 ⟨rfl, hb8⟩))
  go_ret
  exact ⟨rfl, Htr.out eX hb8⟩
end Go.Proofs.YtmilcknboaefkaaGreatDoor
