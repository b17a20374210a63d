/- lease: Set. -/
import Derived.Test.YtfakcjelibdnbaaHpF
namespace Go.Proofs.Ytfakcjelibdnbaa
open Go.RowKit Go.Joins

theorem PMap.other {w : World} {b n : Nat} {m : ByteArray → Option Nat} (h : PMap w b n m) {p : Addr} (hp : p.block ≠ b) (v : Value) : PMap (w.setCell p v) b n m :=
  h.keep (S := fun k => k = p.block) (Keep.setCell (S := fun k => k = p.block) (Keep.refl _ _) rfl v) (fun e => hp e.symm)
theorem find_app_none {α : Type} {p : α → Bool} : ∀ {l m : List α}, (∀ x ∈ l, p x = false) → (l ++ m).find? p = m.find? p
  | [], _, _ => rfl
  | x :: l, m, h => by
    rw [List.cons_append, List.find?_cons_of_neg (by simp [h x List.mem_cons_self])]
    exact find_app_none fun y hy => h y (List.mem_cons_of_mem _ hy)
theorem mOf_app {E : List El} {a : El} (h : ∀ x ∈ E, x.k ≠ a.k) (s : ByteArray) : mOf (E ++ [a]) s = mputP (mOf E) a.k (some a.b) s := by
  by_cases e : s = a.k
  · subst e
    rw [mputP_same]
    unfold mOf
    rw [find_app_none fun x hx => by simp [h x hx]]
    simp
  · rw [mputP_other _ _ e]
    unfold mOf
    rw [List.find?_append]
    cases E.find? fun x => decide (x.k = s) with
    | some x => rfl
    | none => simp [Ne.symm e]
theorem mOf_oth (E : List El) (k s : ByteArray) : mOf (oth E k) s = mputP (mOf E) k none s := by
  by_cases e : s = k
  · subst e
    rw [mputP_same]
    exact mOf_none fun a ha => (mem_oth.1 ha).2
  · rw [mputP_other _ _ e]
    unfold mOf oth
    rw [List.find?_filter]
    congr 2
    funext a
    by_cases h : a.k = s
    · simp [h, e]
    · simp [h]
theorem mOf_put {E : List El} {a : El} (h : mOf E a.k = some a.b) (s : ByteArray) : mOf (oth E a.k ++ [a]) s = mOf E s := by
  rw [mOf_app (fun x hx => (mem_oth.1 hx).2)]
  by_cases e : s = a.k
  · rw [e, mputP_same, h]
  · rw [mputP_other _ _ e, mOf_oth, mputP_other _ _ e]

/-- What a call on a heap leaves. -/
def Dn (w w' : World) (F : Nat → Prop) (q tn : Nat) (L : Le) : Prop := ∃ F', HAt w' F' q tn L ∧ (∀ x, F' x → F x ∨ w.heap.size ≤ x) ∧ Keep F w w'

theorem set_nan {w : World} {q : Nat} (k : ByteArray) {e : Nat} (he : Fl.nan e = true) : Calls Try.prog 18 #[.pointer (some ⟨q, 0, none⟩), .string k, .float .f64 e] w fun r w' => r = .returned (.int .i64 1) ∧ w' = w := by
  have iN := isNaN_any e w
  rw [he] at iN
  go_enter Try.func18, Try.ntmps18
  go_wp2_with (go_at_call 33; refine iN.mono ?_; clear iN; rintro r w1 ⟨rfl, hw⟩; rw [hw]; clear hw w1)
  go_ret
  exact ⟨rfl, rfl⟩

/-- A lease that is there is set anew: the memory ahead of Fix. -/
theorem set_old {w : World} {F : Nat → Prop} {q tn : Nat} {E : List El} {mb : Nat} {g : Option Nat} {n c N : Nat} {d : Nat → El} (h : HI w F q tn E mb g n c N d) {i : Nat} (hi : i < n) {e : Nat} (he : Fl.nan e = false) (htn : tn < 1000000) :
    HB ((((w.setCell ⟨q, 2, none⟩ (.int .i64 ((tn + 1 : Nat) : Int))).setCell ⟨(d i).b, 1, none⟩ (.float .f64 e)).setCell ⟨(d i).b, 2, none⟩ (.int .i64 ((tn + 1 : Nat) : Int)))) q mb g n c (tn + 1) ∧
    Od ((((w.setCell ⟨q, 2, none⟩ (.int .i64 ((tn + 1 : Nat) : Int))).setCell ⟨(d i).b, 1, none⟩ (.float .f64 e)).setCell ⟨(d i).b, 2, none⟩ (.int .i64 ((tn + 1 : Nat) : Int)))) g n c (fun j => if j = i then ⟨(d i).b, (d i).k, e, tn + 1⟩ else d j) ∧
    Ex (fun j => if j = i then ⟨(d i).b, (d i).k, e, tn + 1⟩ else d j) i n ∧
    PMap ((((w.setCell ⟨q, 2, none⟩ (.int .i64 ((tn + 1 : Nat) : Int))).setCell ⟨(d i).b, 1, none⟩ (.float .f64 e)).setCell ⟨(d i).b, 2, none⟩ (.int .i64 ((tn + 1 : Nat) : Int)))) mb N (mOf E) ∧
    Keep F w ((((w.setCell ⟨q, 2, none⟩ (.int .i64 ((tn + 1 : Nat) : Int))).setCell ⟨(d i).b, 1, none⟩ (.float .f64 e)).setCell ⟨(d i).b, 2, none⟩ (.int .i64 ((tn + 1 : Nat) : Int)))) := by
  have hB := h.gp.hb
  have ho := h.gp.od
  have li := ho.ls i hi
  have nq := hB.notLs li
  have fq : F q := (h.fp q).2 (.inl rfl)
  have fi : F (d i).b := (h.fp _).2 (.inr (.inr (.inr ⟨i, hi, rfl⟩)))
  have bs : ∀ j, ((fun j => if j = i then (⟨(d i).b, (d i).k, e, tn + 1⟩ : El) else d j) j).b = (d j).b := fun j => by
    show (if j = i then _ else d j : El).b = _
    split
    · rename_i e; rw [e]
    · rfl
  refine ⟨?_, ⟨fun b eb => ?_, ho.nil, ho.le, ho.cl, ho.few, fun j hj => ?_, fun a b ha hb e => ?_, fun j hj => ?_⟩, ?_, ?_, ?_⟩
  · exact (set_other (p := ⟨(d i).b, 2, none⟩) (Ne.symm nq)).trans ((set_other (p := ⟨(d i).b, 1, none⟩) (Ne.symm nq)).trans (hB.set2 (tn + 1)))
  · have hr := ho.row b eb
    have n1 := hB.notRw hr
    have n2 := li.notRow hr
    have := ((hr.other (p := ⟨q, 2, none⟩) n1 (.int .i64 ((tn + 1 : Nat) : Int))).other (p := ⟨(d i).b, 1, none⟩) (Ne.symm n2) (.float .f64 e)).other (p := ⟨(d i).b, 2, none⟩) (Ne.symm n2) (.int .i64 ((tn + 1 : Nat) : Int))
    obtain ⟨cur, h1, h2, h3⟩ := this
    exact ⟨cur, h1, h2, fun j hj => by rw [h3 j hj]; unfold pv; rw [bs j]⟩
  · by_cases g2 : j = i
    · subst g2
      simp only [if_true]
      have l1 := li.other (p := ⟨q, 2, none⟩) nq (.int .i64 ((tn + 1 : Nat) : Int))
      unfold LsB at l1 ⊢
      exact block_setCell (block_setCell l1 _) _
    · simp only [if_neg g2]
      have nj : (d j).b ≠ (d i).b := fun e => g2 (ho.inj j i hj hi e)
      exact (((ho.ls j hj).other (p := ⟨q, 2, none⟩) (hB.notLs (ho.ls j hj)) _).other (p := ⟨(d i).b, 1, none⟩) nj _).other (p := ⟨(d i).b, 2, none⟩) nj _
  · rw [bs a, bs b] at e
    exact ho.inj a b ha hb e
  · by_cases g2 : j = i
    · subst g2
      simp only [if_true]
      exact ⟨he, by omega⟩
    · simp only [if_neg g2]
      exact ho.ok j hj
  · exact h.gp.hp.put fun j _ hne => if_neg hne
  · have hq' := h.mp.notCells hB
    have hi' := h.mp.notCells li
    exact ((h.mp.other (p := ⟨q, 2, none⟩) hq' _).other (p := ⟨(d i).b, 1, none⟩) hi' _).other (p := ⟨(d i).b, 2, none⟩) hi' _
  · exact (((Keep.refl _ _).setCell fq _).setCell fi _).setCell fi _

theorem setOld {w w4 : World} {F : Nat → Prop} {q tn : Nat} {E : List El} {mb : Nat} {b n c N : Nat} {d d'' : Nat → El} (h : HI w F q tn E mb (some b) n c N d) {i : Nat} (hi : i < n) {e : Nat} (he : Fl.nan e = false) (htn : tn < 1000000)
    (hP : HFixP q mb (tn + 1) b n c (fun j => if j = i then ⟨(d i).b, (d i).k, e, tn + 1⟩ else d j) ((((w.setCell ⟨q, 2, none⟩ (.int .i64 ((tn + 1 : Nat) : Int))).setCell ⟨(d i).b, 1, none⟩ (.float .f64 e)).setCell ⟨(d i).b, 2, none⟩ (.int .i64 ((tn + 1 : Nat) : Int)))) w4 d'') :
    Dn w w4 F q (tn + 1) (sets (abs E) (d i).k e) := by
  obtain ⟨o1, o2, o3, o4, o5⟩ := set_old h hi he htn
  have bs : ∀ j, ((fun j => if j = i then (⟨(d i).b, (d i).k, e, tn + 1⟩ : El) else d j) j).b = (d j).b := fun j => by
    show (if j = i then _ else d j : El).b = _
    split
    · rename_i e; rw [e]
    · rfl
  have of1 : ∀ k, OF (some b) n (fun j => if j = i then (⟨(d i).b, (d i).k, e, tn + 1⟩ : El) else d j) k ↔ OF (some b) n d k := fun k => by
    constructor
    · rintro (g | ⟨j, hj, g⟩)
      · exact .inl g
      · exact .inr ⟨j, hj, (bs j).symm.trans g⟩
    · rintro (g | ⟨j, hj, g⟩)
      · exact .inl g
      · exact .inr ⟨j, hj, (bs j).trans g⟩
  have of2 : ∀ k, OF (some b) n d'' k ↔ OF (some b) n d k := fun k => (hP.sw.of (Nat.le_refl n)).trans (of1 k)
  have hin : d i ∈ E := (h.lv.mem _).2 ⟨i, hi, rfl⟩
  have lv1 := h.lv.put h.gp.od.inj hi (a := ⟨(d i).b, (d i).k, e, tn + 1⟩) (d' := fun j => if j = i then ⟨(d i).b, (d i).k, e, tn + 1⟩ else d j) rfl rfl (fun j _ hne => if_neg hne) (if_pos rfl)
  refine ⟨F, ⟨_, mb, some b, n, c, N, d'', ⟨hP.gp, lv1.sws hP.sw, ?_, by have := h.nt; omega, fun k => ?_⟩, ?_⟩, fun x hx => .inl hx, ?_⟩
  · refine PMap.ext (o4.keep hP.kp (fun hof => ?_)) (fun s => (mOf_put (a := ⟨(d i).b, (d i).k, e, tn + 1⟩) (show mOf E (d i).k = some (d i).b from mOf_some h.lv.kys hin) s).symm)
    rcases hof with g | ⟨j, hj, g⟩
    · cases g
      obtain ⟨cur, h1, _⟩ := o2.row _ rfl
      exact o4.notCells h1 rfl
    · exact o4.notCells (o2.ls j hj) g
  · rw [h.fp k]
    constructor
    · rintro (g | g | g)
      · exact .inl g
      · exact .inr (.inl g)
      · exact .inr (.inr ((of2 k).2 g))
    · rintro (g | g | g)
      · exact .inl g
      · exact .inr (.inl g)
      · exact .inr (.inr ((of2 k).1 g))
  · unfold sets
    rw [← abs_oth]
    simp [abs]
  · exact o5.trans (hP.kp.mono fun k hk => (h.fp k).2 (.inr (.inr ((of1 k).1 hk))))

set_option maxHeartbeats 2000000 in
theorem set_olds {w : World} {F : Nat → Prop} {q tn : Nat} {E : List El} {mb : Nat} {b n c N : Nat} {d : Nat → El} (h : HI w F q tn E mb (some b) n c N d) {i : Nat} (hi : i < n) {e : Nat} (he : Fl.nan e = false) (htn : tn < 1000000) (hks : (d i).k.size ≤ 1000000) :
    Calls Try.prog 18 #[.pointer (some ⟨q, 0, none⟩), .string (d i).k, .float .f64 e] w fun r w' => r = .returned (.int .i64 0) ∧ Dn w w' F q (tn + 1) (sets (abs E) (d i).k e) := by
  obtain ⟨o1, o2, o3, o4, o5⟩ := set_old h hi he htn
  have HP : Hid (∀ w4 d'', HFixP q mb (tn + 1) b n c (fun j => if j = i then ⟨(d i).b, (d i).k, e, tn + 1⟩ else d j) ((((w.setCell ⟨q, 2, none⟩ (.int .i64 ((tn + 1 : Nat) : Int))).setCell ⟨(d i).b, 1, none⟩ (.float .f64 e)).setCell ⟨(d i).b, 2, none⟩ (.int .i64 ((tn + 1 : Nat) : Int)))) w4 d'' →
    Dn w w4 F q (tn + 1) (sets (abs E) (d i).k e)) := fun w4 d'' hP => setOld h hi he htn hP
  have iN := isNaN_any e w
  rw [he] at iN
  have hB := h.gp.hb
  have li := h.gp.od.ls i hi
  have nq := hB.notLs li
  have c0 := hB.c0
  have c2 := hB.c2
  have f2 := hB.fz 2
  have hl := (h.mp.other (p := ⟨q, 2, none⟩) (h.mp.notCells hB) (.int .i64 ((tn + 1 : Nat) : Int))).look (d i).k (by unfold maxLen; omega)
  rw [mOf_some h.lv.kys ((h.lv.mem _).2 ⟨i, hi, rfl⟩)] at hl
  unfold ptrO at hl
  have li1 : LsB (w.setCell ⟨q, 2, none⟩ (.int .i64 ((tn + 1 : Nat) : Int))) (d i) i := li.other nq _
  have li2 : LsB ((w.setCell ⟨q, 2, none⟩ (.int .i64 ((tn + 1 : Nat) : Int))).setCell ⟨(d i).b, 1, none⟩ (.float .f64 e)) ⟨(d i).b, (d i).k, e, (d i).t⟩ i := block_setCell li1 _
  have li3 : LsB (((w.setCell ⟨q, 2, none⟩ (.int .i64 ((tn + 1 : Nat) : Int))).setCell ⟨(d i).b, 1, none⟩ (.float .f64 e)).setCell ⟨(d i).b, 2, none⟩ (.int .i64 ((tn + 1 : Nat) : Int))) ⟨(d i).b, (d i).k, e, tn + 1⟩ i := block_setCell li2 _
  have hca : ((tn + 1 : Nat) : Int) = (tn : Int) + 1 := by omega
  obtain ⟨W3, hW3⟩ : ∃ W3, ((w.setCell ⟨q, 2, none⟩ (.int .i64 ((tn + 1 : Nat) : Int))).setCell ⟨(d i).b, 1, none⟩ (.float .f64 e)).setCell ⟨(d i).b, 2, none⟩ (.int .i64 ((tn + 1 : Nat) : Int)) = W3 := ⟨_, rfl⟩
  rw [hW3] at li3 o1 o2 HP
  have l1 := li.c1
  have lf1 := li.fz 1
  have l2 := li.c2
  have lf2 := li.fz 2
  have l3 := li3.c3
  have nq' : q ≠ (d i).b := Ne.symm nq
  have m1 := li1.c1
  have mf1 := li1.fz 1
  have m2 := li2.c2
  have mf2 := li2.fz 2
  have q2 : (w.setCell ⟨q, 2, none⟩ (.int .i64 ((tn + 1 : Nat) : Int))).cell? ⟨q, 2, none⟩ = some (.int .i64 ((tn + 1 : Nat) : Int)) := (hB.set2 (tn + 1)).c2
  have HC : Hid (Calls Try.prog 34 #[oi q, .int .i64 i] W3.drew fun r w' => r = .returned (.tuple #[]) ∧ Dn w w' F q (tn + 1) (sets (abs E) (d i).k e)) :=
    (hfix_any q mb b n c (tn + 1) i _ W3.drew (o1.keep (S := fun _ => False) (Keep.refl _ _).drew (fun h => h)) o2.drew hi o3).mono (by
      rintro r w4 ⟨rfl, d'', hF⟩
      exact ⟨rfl, HP.out w4 d'' ⟨hF.gp, hF.sw, (Keep.refl _ _).drew.trans hF.kp⟩⟩)
  rw [hca] at hl hW3 q2 m1 mf1 m2 mf2
  dsimp only at m2 mf2
  clear o1 o2 o3 o4 o5 h hB li li1 li2 li3 HP hi he hca
  unfold oi oq at HC
  dsimp only at l3
  go_enter Try.func18, Try.ntmps18
  have hsf := fun (a : Addr) (x : Nat) (m : Mode) (w : World) => run_store Try.prog w a (.float .f64 x) m rfl
  go_upto_region 7 with (go_at_call 33; refine iN.mono ?_; clear iN; rintro r w1 ⟨rfl, hw⟩; rw [hw]; clear hw w1)
  clear hW3 l1 l2 lf1 lf2 q2 m1 mf1 m2 mf2
  refine wp_region_lx (fun _ => True) [] 9 (by kernel_rfl) (by kernel_rfl) ?_
  have HS : True := trivial
  have l3' : W3.drew.cell? ⟨(d i).b, 3, none⟩ = some (.int .i64 i) := l3
  clear l3
  generalize W3.drew = W at *
  refine lx_rd 0 ?vR0 (by kernel_rfl) (fun _ _ d _ _ h => by cases d <;> exact h) (by kernel_rfl) HS rfl rfl rfl (fun w' hS => ?hR0) ?_
  case hR0 => first | (go_simp; rfl) | go_simp
  simp only [List.setIfInBounds_toArray, List.set_cons_zero, List.set_cons_succ]
  refine lx_rd 1 ?vR1 (by kernel_rfl) (fun _ _ d _ _ h => by cases d <;> exact h) (by kernel_rfl) HS rfl rfl rfl (fun w' hS => ?hR1) ?_
  case hR1 => first | (go_simp; rfl) | go_simp
  simp only [List.setIfInBounds_toArray, List.set_cons_zero, List.set_cons_succ]
  refine lx_rd 2 ?vR2 (by kernel_rfl) (fun _ _ d _ _ h => by cases d <;> exact h) (by kernel_rfl) HS rfl rfl rfl (fun w' hS => ?hR2) ?_
  case hR2 => first | (go_simp; rfl) | go_simp
  simp only [List.setIfInBounds_toArray, List.set_cons_zero, List.set_cons_succ]
  refine lx_rd 3 ?vR3 (by kernel_rfl) (fun _ _ d _ _ h => by cases d <;> exact h) (by kernel_rfl) HS rfl rfl rfl (fun w' hS => ?hR3) ?_
  case hR3 => first | (go_simp; rfl) | go_simp
  simp only [List.setIfInBounds_toArray, List.set_cons_zero, List.set_cons_succ]
  refine lx_rd 4 ?vR4 (by kernel_rfl) (fun _ _ d _ _ h => by cases d <;> exact h) (by kernel_rfl) HS rfl rfl rfl (fun w' hS => ?hR4) ?_
  case hR4 => first | (go_simp; rfl) | go_simp
  simp only [List.setIfInBounds_toArray, List.set_cons_zero, List.set_cons_succ]
  refine lx_rd 5 ?vR5 (by kernel_rfl) (fun _ _ d _ _ h => by cases d <;> exact h) (by kernel_rfl) HS rfl rfl rfl (fun w' hS => ?hR5) ?_
  case hR5 => first | (go_simp; rfl) | go_simp
  simp only [List.setIfInBounds_toArray, List.set_cons_zero, List.set_cons_succ]
  refine lx_rd 6 ?vR6 (by kernel_rfl) (fun _ _ d _ _ h => by cases d <;> exact h) (by kernel_rfl) HS rfl rfl rfl (fun w' hS => ?hR6) ?_
  case hR6 => first | (go_simp; rfl) | go_simp
  simp only [List.setIfInBounds_toArray, List.set_cons_zero, List.set_cons_succ]
  refine lx_one 7 (by kernel_rfl) (stepT_val (w' := W) (.int .i64 i) rfl rfl rfl ?r7 (fun _ => trivial) ?_)
  case r7 => first | (go_simp; rfl) | go_simp
  simp only [List.setIfInBounds_toArray, List.set_cons_zero, List.set_cons_succ]
  refine lx_one 8 (by kernel_rfl) (stepT_call 34 ?aR8 rfl rfl rfl ?rR8 ?_)
  case rR8 => first | (go_simp; rfl) | go_simp
  refine HC.out.mono ?_
  rintro r w5 ⟨rfl, hD⟩
  refine ⟨_, rfl, fun _ => trivial, ?_⟩
  simp only [List.setIfInBounds_toArray, List.set_cons_zero, List.set_cons_succ]
  refine lx_nil (by kernel_rfl) ?_
  go_wp2
  go_ret
  exact ⟨rfl, hD⟩

/-- The memory when the turn is counted. -/
structure N1 (w : World) (F : Nat → Prop) (q tn mb : Nat) (g : Option Nat) (n c N : Nat) (d : Nat → El) (E : List El) (W : World) : Prop where
  hb : HB W q mb g n c (tn + 1)
  od : Od W g n c d
  mp : PMap W mb N (mOf E)
  kp : Keep F w W

section
variable {w : World} {F : Nat → Prop} {q tn mb : Nat} {g : Option Nat} {n c N : Nat} {d : Nat → El} {E : List El}
theorem N1.keep {W W' : World} (h : N1 w F q tn mb g n c N d E W) (hk : Keep (fun _ => False) W W') : N1 w F q tn mb g n c N d E W' :=
  ⟨h.hb.keep hk (fun h => h), h.od.keep hk (fun _ _ h => h), h.mp.keep hk (fun h => h), h.kp.trans (hk.mono fun _ h => h.elim)⟩
theorem N1.start (h : HI w F q tn E mb g n c N d) : N1 w F q tn mb g n c N d E (w.setCell ⟨q, 2, none⟩ (.int .i64 ((tn + 1 : Nat) : Int))) := by
  have fq : F q := (h.fp q).2 (.inl rfl)
  refine ⟨h.gp.hb.set2 (tn + 1), h.gp.od.keep (S := fun k => k = q) (Keep.setCell (S := fun k => k = q) (p := ⟨q, 2, none⟩) (Keep.refl _ _) rfl _) (fun b hb e => ?_), h.mp.other (p := ⟨q, 2, none⟩) (h.mp.notCells h.gp.hb) _, (Keep.refl _ _).setCell fq _⟩
  subst e
  exact not_of h.gp.hb h.gp.od hb

theorem setNew {W W4 w5 : World} (h : HI w F q tn E mb g n c N d) (h1 : N1 w F q tn mb g n c N d E W) {a : El} (ha : a.t = tn + 1) (hb : a.b = W.heap.size) (hk : ∀ x ∈ E, x.k ≠ a.k) (hs : a.k.size ≤ 1000000)
    (hM : PMap W4 mb (N + 1) (mputP (mOf E) a.k (some a.b))) (hW4 : Keep (fun k => k = mb) (W.alloc (.cells #[.string a.k, .float .f64 a.e, .int .i64 a.t, .int .i64 (0 : Nat)] 70)) W4) {g' c' : Nat} {d' : Nat → El} (hP : HPushP q mb (tn + 1) g n c d a W4 w5 g' c' d') :
    Dn w w5 F q (tn + 1) (sets (abs E) a.k a.e) := by
  have hnew : w.heap.size ≤ a.b := by rw [hb]; exact h1.kp.size
  have hsz4 : W.heap.size < W4.heap.size := by have := hW4.size; simp at this; omega
  have ofi : ∀ k, OF (some g') (n + 1) d' k → k = g' ∨ k = a.b ∨ ∃ i, i < n ∧ (d i).b = k := fun k hk2 => by
    rcases (hP.sw.of (Nat.le_refl _)).1 hk2 with e | ⟨i, hi, e⟩
    · cases e; exact .inl rfl
    · by_cases e2 : i = n
      · subst e2; rw [ins_at] at e; exact .inr (.inl e.symm)
      · rw [ins_old d a e2] at e; exact .inr (.inr ⟨i, by omega, e⟩)
  have hmbq : mb ≠ q := Ne.symm (h.mp.notCells h.gp.hb)
  refine ⟨fun k => k = q ∨ k = mb ∨ OF (some g') (n + 1) d' k, ⟨E ++ [a], mb, some g', n + 1, c', N + 1, d', ⟨hP.gp, (h.lv.push ha hk hs (fun i hi => ins_old d a (by omega)) (ins_at d n a)).sws hP.sw, ?_, by have := h.nt; omega, fun k => Iff.rfl⟩, ?_⟩, fun x hx => ?_, ?_⟩
  · refine PMap.ext (hM.keep hP.kp ?_) (fun s => (mOf_app hk s).symm)
    rintro (e | e | e)
    · exact hmbq e
    · have := h.mp.lt; omega
    · rcases e with e | ⟨i, hi, e⟩
      · obtain ⟨cur, g1, _⟩ := h.gp.od.row mb e
        exact h.mp.notCells g1 rfl
      · exact h.mp.notCells (h.gp.od.ls i hi) e
  · unfold sets
    rw [drp_none (fun p hp e => ?_)]
    · simp [abs]
    · obtain ⟨x, hx, rfl⟩ := List.mem_map.1 hp
      exact hk x hx e
  · rcases hx with e | e | e
    · exact .inl ((h.fp x).2 (.inl e))
    · exact .inl ((h.fp x).2 (.inr (.inl e)))
    · rcases ofi x e with e | e | ⟨i, hi, e⟩
      · rcases hP.wh with e2 | e2
        · left; rw [e]; exact (h.fp g').2 (.inr (.inr (.inl e2)))
        · right; have := h1.kp.size; omega
      · right; omega
      · exact .inl ((h.fp x).2 (.inr (.inr (.inr ⟨i, hi, e⟩))))
  · have fmb : F mb := (h.fp mb).2 (.inr (.inl rfl))
    have k4 : Keep F w W4 := (h1.kp.alloc _).trans (hW4.mono fun k e => e ▸ fmb)
    refine k4.andThen hP.kp (fun k hk2 hk3 => ?_)
    rcases hk3 with e | e | e
    · exact (h.fp k).2 (.inl e)
    · omega
    · exact (h.fp k).2 (.inr (.inr e))
end

set_option maxHeartbeats 4000000 in
theorem set_new {w : World} {F : Nat → Prop} {q tn : Nat} {E : List El} {mb : Nat} {g : Option Nat} {n c N : Nat} {d : Nat → El} (h : HI w F q tn E mb g n c N d) (k : ByteArray) (hks : k.size ≤ 1000000) (hk : ∀ x ∈ E, x.k ≠ k) {e : Nat} (he : Fl.nan e = false) (htn : tn < 1000000) :
    Calls Try.prog 18 #[.pointer (some ⟨q, 0, none⟩), .string k, .float .f64 e] w fun r w' => r = .returned (.int .i64 0) ∧ Dn w w' F q (tn + 1) (sets (abs E) k e) := by
  have h1 := N1.start h
  have iN := isNaN_any e w
  rw [he] at iN
  have hB := h.gp.hb
  have c0 := hB.c0
  have c2 := hB.c2
  have f2 := hB.fz 2
  have hl := h1.mp.look k (by unfold maxLen; omega)
  rw [mOf_none hk] at hl
  unfold ptrO at hl
  have hca : ((tn + 1 : Nat) : Int) = (tn : Int) + 1 := by omega
  have H : Hid (HI w F q tn E mb g n c N d) := h
  have HK : Hid (∀ x ∈ E, x.k ≠ k) := hk
  have hnn : n < 1000000 := by have := h.lv.ntn; omega
  have hNN : N < 1000000 := by have := h.nt; omega
  rw [hca] at hl
  clear hB h hk
  go_enter Try.func18, Try.ntmps18
  go_upto_region 9 with (go_at_call 33; refine iN.mono ?_; clear iN; rintro r w1 ⟨rfl, hw⟩; rw [hw]; clear hw w1)
  rw [← hca]
  clear hl
  obtain ⟨W1, hW1⟩ : ∃ W1, w.setCell ⟨q, 2, none⟩ (.int .i64 ((tn + 1 : Nat) : Int)) = W1 := ⟨_, rfl⟩
  rw [hW1] at h1 ⊢
  clear hW1 c0 c2 f2
  refine wp_region_lx (fun w' => w'.cell? ⟨q, 2, none⟩ = some (.int .i64 ((tn + 1 : Nat) : Int))) [] 10 (by kernel_rfl) (by kernel_rfl) ?_
  have h2 : N1 w F q tn mb g n c N d E W1.drew := h1.keep (Keep.refl _ _).drew
  clear h1
  generalize W1.drew = W2 at *
  have HS := h2.hb.c2
  refine lx_rd 0 ?vR0 (by kernel_rfl) (fun _ _ d _ _ h => by cases d <;> exact h) (by kernel_rfl) HS rfl rfl rfl (fun w' hS => ?hR0) ?_
  case hR0 => first | (go_simp; rfl) | go_simp
  simp only [List.setIfInBounds_toArray, List.set_cons_zero, List.set_cons_succ]
  refine lx_rd 2 ?vR2 (by kernel_rfl) (fun _ _ d _ _ h => by cases d <;> exact h) (by kernel_rfl) HS rfl rfl rfl (fun w' hS => ?hR2) ?_
  case hR2 => first | (go_simp; rfl) | go_simp
  simp only [List.setIfInBounds_toArray, List.set_cons_zero, List.set_cons_succ]
  refine lx_rd 3 ?vR3 (by kernel_rfl) (fun _ _ d _ _ h => by cases d <;> exact h) (by kernel_rfl) HS rfl rfl rfl (fun w' hS => ?hR3) ?_
  case hR3 => first | (go_simp; rfl) | go_simp
  simp only [List.setIfInBounds_toArray, List.set_cons_zero, List.set_cons_succ]
  refine lx_rd 4 ?vR4 (by kernel_rfl) (fun _ _ d _ _ h => by cases d <;> exact h) (by kernel_rfl) HS rfl rfl rfl (fun w' hS => ?hR4) ?_
  case hR4 => first | (go_simp; rfl) | go_simp
  simp only [List.setIfInBounds_toArray, List.set_cons_zero, List.set_cons_succ]
  refine lx_rd 5 ?vR5 (by kernel_rfl) (fun _ _ d _ _ h => by cases d <;> exact h) (by kernel_rfl) HS rfl rfl rfl (fun w' hS => ?hR5) ?_
  case hR5 => first | (go_simp; rfl) | go_simp
  simp only [List.setIfInBounds_toArray, List.set_cons_zero, List.set_cons_succ]
  refine lx_rd 6 (.int .i64 ((tn + 1 : Nat) : Int)) (by kernel_rfl) (fun _ _ d _ _ h => by cases d <;> exact h) (by kernel_rfl) HS rfl rfl rfl (fun w' hS => ?hR6) ?_
  case hR6 => have q1 := hS; first | (go_simp; rfl) | go_simp
  simp only [List.setIfInBounds_toArray, List.set_cons_zero, List.set_cons_succ]
  refine lx_one 1 (by kernel_rfl) (stepT_call 35 ?aR1 rfl rfl rfl ?rR1 ?_)
  case rR1 => first | (go_simp; rfl) | go_simp
  refine (clone_any k _ (by omega)).mono ?_
  rintro r W3 ⟨rfl, hb3⟩
  have h3 := h2.keep (Keep.ofBelow hb3)
  clear h2 hb3
  refine ⟨_, rfl, fun _ => h3.hb.c2, ?_⟩
  simp only [List.setIfInBounds_toArray, List.set_cons_zero, List.set_cons_succ]
  refine lx_one 7 (by kernel_rfl) (stepT_val (w' := W3) (.agg #[.string k, .float .f64 e, .int .i64 ((tn + 1 : Nat) : Int), .int .i64 0]) rfl rfl rfl ?r7 (fun _ => h3.hb.c2) ?_)
  case r7 => first | (go_simp; rfl) | go_simp
  simp only [List.setIfInBounds_toArray, List.set_cons_zero, List.set_cons_succ]
  obtain ⟨W4, hW4⟩ : ∃ W4, W3.alloc (.cells #[.string k, .float .f64 e, .int .i64 ((tn + 1 : Nat) : Int), .int .i64 ((0 : Nat) : Int)] 70) = W4 := ⟨_, rfl⟩
  have h4 : N1 w F q tn mb g n c N d E W4 := h3.keep (hW4 ▸ (Keep.refl _ _).alloc _)
  have a4 : LsB W4 ⟨W3.heap.size, k, e, tn + 1⟩ 0 := by rw [← hW4]; exact alloc_at W3 _
  refine lx_one 8 (by kernel_rfl) (stepT_val (w' := W4) (.pointer (some ⟨W3.heap.size, 0, none⟩)) rfl rfl rfl ?r8 (fun _ => h4.hb.c2) ?_)
  case r8 => rw [← hW4]; first | (go_simp; rfl) | go_simp
  simp only [List.setIfInBounds_toArray, List.set_cons_zero, List.set_cons_succ]
  refine lx_one 9 (by kernel_rfl) (stepT_val (w' := W4) (.pointer (some ⟨W3.heap.size, 0, none⟩)) rfl rfl rfl ?r9 (fun _ => h4.hb.c2) ?_)
  case r9 => first | (go_simp; rfl) | go_simp
  simp only [List.setIfInBounds_toArray, List.set_cons_zero, List.set_cons_succ]
  refine lx_nil (by kernel_rfl) ?_
  have HW4 : Hid (W3.alloc (.cells #[.string k, .float .f64 e, .int .i64 ((tn + 1 : Nat) : Int), .int .i64 ((0 : Nat) : Int)] 70) = W4) := hW4
  have H3 : Hid (N1 w F q tn mb g n c N d E W3) := h3
  have H4 : Hid (N1 w F q tn mb g n c N d E W4 ∧ LsB W4 ⟨W3.heap.size, k, e, tn + 1⟩ 0) := ⟨h4, a4⟩
  clear hW4 h3 h4 a4 HS
  obtain ⟨nb, hnb⟩ : ∃ nb, W3.heap.size = nb := ⟨_, rfl⟩
  have HNB : Hid (W3.heap.size = nb) := hnb
  rw [hnb] at H4 ⊢
  clear hnb
  go_upto_region 10 with fail
  refine wp_region_lx (fun w' => w'.cell? ⟨q, 0, none⟩ = some (.map (some mb)) ∧ w'.cell? ⟨nb, 0, none⟩ = some (.string k)) [] 10 (by kernel_rfl) (by kernel_rfl) ?_
  have h5 : N1 w F q tn mb g n c N d E W4.drew := H4.out.1.keep (Keep.refl _ _).drew
  have a5 : LsB W4.drew ⟨nb, k, e, tn + 1⟩ 0 := H4.out.2
  have k5 : Keep (fun k => k = mb) W4 W4.drew := (Keep.refl _ _).drew
  generalize W4.drew = W5 at *
  have HS : W5.cell? ⟨q, 0, none⟩ = some (.map (some mb)) ∧ W5.cell? ⟨nb, 0, none⟩ = some (.string k) := ⟨h5.hb.c0, a5.c0⟩
  refine lx_rd 0 ?vS0 (by kernel_rfl) (fun _ _ d _ _ h => by cases d <;> exact h) (by kernel_rfl) HS rfl rfl rfl (fun w' hS => ?hS0) ?_
  case hS0 => first | (go_simp; rfl) | go_simp
  simp only [List.setIfInBounds_toArray, List.set_cons_zero, List.set_cons_succ]
  refine lx_rd 1 ?vS1 (by kernel_rfl) (fun _ _ d _ _ h => by cases d <;> exact h) (by kernel_rfl) HS rfl rfl rfl (fun w' hS => ?hS1) ?_
  case hS1 => first | (go_simp; rfl) | go_simp
  simp only [List.setIfInBounds_toArray, List.set_cons_zero, List.set_cons_succ]
  refine lx_rd 2 ?vS2 (by kernel_rfl) (fun _ _ d _ _ h => by cases d <;> exact h) (by kernel_rfl) HS rfl rfl rfl (fun w' hS => ?hS2) ?_
  case hS2 => first | (go_simp; rfl) | go_simp
  simp only [List.setIfInBounds_toArray, List.set_cons_zero, List.set_cons_succ]
  refine lx_rd 3 (.map (some mb)) (by kernel_rfl) (fun _ _ d _ _ h => by cases d <;> exact h) (by kernel_rfl) HS rfl rfl rfl (fun w' hS => ?hS3) ?_
  case hS3 => have q1 := hS.1; first | (go_simp; rfl) | go_simp
  simp only [List.setIfInBounds_toArray, List.set_cons_zero, List.set_cons_succ]
  refine lx_rd 4 ?vS4 (by kernel_rfl) (fun _ _ d _ _ h => by cases d <;> exact h) (by kernel_rfl) HS rfl rfl rfl (fun w' hS => ?hS4) ?_
  case hS4 => first | (go_simp; rfl) | go_simp
  simp only [List.setIfInBounds_toArray, List.set_cons_zero, List.set_cons_succ]
  refine lx_rd 5 ?vS5 (by kernel_rfl) (fun _ _ d _ _ h => by cases d <;> exact h) (by kernel_rfl) HS rfl rfl rfl (fun w' hS => ?hS5) ?_
  case hS5 => first | (go_simp; rfl) | go_simp
  simp only [List.setIfInBounds_toArray, List.set_cons_zero, List.set_cons_succ]
  refine lx_rd 6 ?vS6 (by kernel_rfl) (fun _ _ d _ _ h => by cases d <;> exact h) (by kernel_rfl) HS rfl rfl rfl (fun w' hS => ?hS6) ?_
  case hS6 => first | (go_simp; rfl) | go_simp
  simp only [List.setIfInBounds_toArray, List.set_cons_zero, List.set_cons_succ]
  refine lx_rd 7 (.string k) (by kernel_rfl) (fun _ _ d _ _ h => by cases d <;> exact h) (by kernel_rfl) HS rfl rfl rfl (fun w' hS => ?hS7) ?_
  case hS7 => have q1 := hS.2; first | (go_simp; rfl) | go_simp
  simp only [List.setIfInBounds_toArray, List.set_cons_zero, List.set_cons_succ]
  refine lx_rd 8 ?vS8 (by kernel_rfl) (fun _ _ d _ _ h => by cases d <;> exact h) (by kernel_rfl) HS rfl rfl rfl (fun w' hS => ?hS8) ?_
  case hS8 => first | (go_simp; rfl) | go_simp
  simp only [List.setIfInBounds_toArray, List.set_cons_zero, List.set_cons_succ]
  obtain ⟨W6, hrun, hM6, hk6⟩ := h5.mp.store hNN k (by unfold maxLen; omega) nb
  have nq6 : q ≠ mb := h5.mp.notCells h5.hb
  have na6 : nb ≠ mb := h5.mp.notCells a5
  refine lx_one 9 (by kernel_rfl) (stepT_store (w' := W6) rfl rfl rfl ?r9b (fun _ => ⟨hk6.cell HS.1 nq6, hk6.cell HS.2 na6⟩) ?_)
  case r9b => go_simp
  refine lx_nil (by kernel_rfl) ?_
  have gp6 : GP q mb (tn + 1) g n c d W6 := ⟨h5.hb.keep hk6 nq6, h5.od.keep hk6 (fun b hb e => by
    subst e
    rcases hb with e | ⟨i, hi, e⟩
    · obtain ⟨cur, g1, _⟩ := h5.od.row b e
      exact h5.mp.notCells g1 rfl
    · exact h5.mp.notCells (h5.od.ls i hi) e), H.out.gp.hp⟩
  have cP := hpush_any q mb g n c (tn + 1) d ⟨nb, k, e, tn + 1⟩ 0 W6 gp6 (a5.keep hk6 na6) hnn (fun hof => by
    have hlt : nb < w.heap.size := by
      rcases hof with e | ⟨i, hi, e⟩
      · exact H.out.lt ((H.out.fp _).2 (.inr (.inr (.inl e))))
      · exact H.out.lt ((H.out.fp _).2 (.inr (.inr (.inr ⟨i, hi, e⟩))))
    have := H3.out.kp.size
    have := HNB.out
    omega) ⟨he, by show tn + 1 < 4611686018427387904; omega⟩
  have HD : Hid (∀ w5 g' c' d', HPushP q mb (tn + 1) g n c d ⟨nb, k, e, tn + 1⟩ W6 w5 g' c' d' → Dn w w5 F q (tn + 1) (sets (abs E) k e)) := fun w5 g' c' d' hP =>
    setNew H.out H3.out (a := ⟨nb, k, e, tn + 1⟩) rfl HNB.out.symm HK.out hks hM6 (by rw [HW4.out]; exact k5.trans hk6) hP
  unfold oi oq at cP
  clear h5 a5 k5 HS hrun hM6 hk6 gp6
  go_wp2_with (go_at_call 36; refine cP.mono ?_; clear cP; rintro r w7 ⟨rfl, g', c', d', hP⟩)
  go_ret
  exact ⟨rfl, HD.out w7 g' c' d' hP⟩

theorem set_any {w : World} {F : Nat → Prop} {q tn : Nat} {L : Le} (h : HAt w F q tn L) (k : ByteArray) (hks : k.size ≤ 1000000) {e : Nat} (he : Fl.nan e = false) (htn : tn < 1000000) :
    Calls Try.prog 18 #[.pointer (some ⟨q, 0, none⟩), .string k, .float .f64 e] w fun r w' => r = .returned (.int .i64 0) ∧ Dn w w' F q (tn + 1) (sets L k e) := by
  obtain ⟨E, mb, g, n, c, N, d, h, rfl⟩ := h
  by_cases hk : ∃ x ∈ E, x.k = k
  · obtain ⟨x, hx, rfl⟩ := hk
    obtain ⟨i, hi, rfl⟩ := (h.lv.mem x).1 hx
    obtain ⟨b, rfl⟩ := h.gp.od.has (by omega)
    exact set_olds h hi he htn hks
  · exact set_new h k hks (fun x hx e => hk ⟨x, hx, e⟩) he htn

end Go.Proofs.Ytfakcjelibdnbaa
