/- OctetBack. -/
import Derived.Test.YtephpbbooicfoaaDoorBackC
import Derived.Test.YtephpbbooicfoaaDoorAnyArg
import Derived.Test.YtephpbbooicfoaaDoorLaidT
import Derived.Deep.CutRange
namespace Go.Proofs.YtephpbbooicfoaaDoor.octetBack
open Go.ChangeShapes Go.WideShapes Go.ChangeAt Go.RowKit
open Go.Proofs.YtephpbbooicfoaaDoor

/-- The argument, as it lies in the call's own variable. -/
structure Box (w : World) (B : Nat) (N : Nat) (I : Int) (F : Nat) : Prop where
  c1 : w.cell? ⟨B, 1, none⟩ = some (.int .u64 N)
  c2 : w.cell? ⟨B, 2, none⟩ = some (.int .i64 I)
  c3 : w.cell? ⟨B, 3, none⟩ = some (.int .u64 F)

theorem Box.lt {w : World} {B N : Nat} {I : Int} {F : Nat} (h : Box w B N I F) : B < w.heap.size := World.block_lt_of_cell? w _ h.c1
theorem Box.carry {w w' : World} {B N : Nat} {I : Int} {F : Nat} (h : Box w B N I F) (k : Ext w w') : Box w' B N I F :=
  ⟨(Below.cell k (p := ⟨B, 1, none⟩) h.lt).trans h.c1, (Below.cell k (p := ⟨B, 2, none⟩) h.lt).trans h.c2, (Below.cell k (p := ⟨B, 3, none⟩) h.lt).trans h.c3⟩
theorem Box.new (w : World) (v u : Value) (N : Nat) (I : Int) (F : Nat) (t : TypeId) : Box (w.alloc (.cells #[v, .int .u64 N, .int .i64 I, .int .u64 F, u] t)) w.heap.size N I F :=
  ⟨by simp, by simp, by simp⟩

theorem grownExt {w w1 w2 : World} {v : Value} {n : Nat} {xs : List Value} (h : Ext w w1) (hown : w1.ownsRow w.heap.size 5 1 v n xs) (hg : w1.grownBy w2 v.ownBlock) : Ext w w2 :=
  Below.grown h hg h.size (fun k hk => (hown.lt k hk).1)

theorem nz_beq {E : Nat} (h : ¬E = 0) : (((E : Nat) : Int) == 0) = false := by simpa using h
theorem nz_bne {E : Nat} (h : ¬E = 0) : (((E : Nat) : Int) != 0) = true := by simpa using h

/-- The sequence, shut: a proposition that no tactic reckons out (where many operations are passed over, 'seqX' itself would be). -/
structure SeqS (P : Program) (ops : Array Oper) (Q : Exit → Act → World → Prop) (l : List (Nat × Bool)) (a : Act) (w : World) : Prop where
  out : seqX P ops Q l a w
section
variable {P : Program} {ops : Array Oper} {Q : Exit → Act → World → Prop}
theorem wp_region_seqS {id : Nat} {a : Act} {w : World} (l : List (Nat × Bool)) (hm : P.follows .mixedOrders = true) (hs : Region.noSelect ops = true) (hl : l.length = ops.size)
    (hok : seqOk .any ops (Array.replicate ops.size false) l = true) (hQ : ∀ c (a : Act) d v w, Q (.panic c) (a.put d v) w → Q (.panic c) a w)
    (h : SeqS P ops Q l a w.drew) : (Code.region id ops true).wp P Q a w := wp_region_seq l hm hs hl hok hQ h.out
theorem seqS_read {i : Nat} {rest : List (Nat × Bool)} {tm : Array Value} {df : List Deferred} {w : World} {o : Oper} {d : Tmp} (v : Value) (ho : ops[i]? = some o) (hd : o.dst = some d) (hw : Region.wanted o (yielded ops tm) = true)
    (hv : ∀ w', Ext w w' → (execOp (Act.eval { tmps := tm, defers := df }) o).run P w' = .ok (.value v) w') (h : SeqS P ops Q rest { tmps := tm.setIfInBounds d v, defers := df } w) : SeqS P ops Q ((i, true) :: rest) { tmps := tm, defers := df } w :=
  ⟨seqX_read v ho hd hw hv h.out⟩
theorem seqS_skip {i : Nat} {rd : Bool} {rest : List (Nat × Bool)} {tm : Array Value} {df : List Deferred} {w : World} {o : Oper} {d : Tmp} (ho : ops[i]? = some o) (hd : o.dst = some d) (hw : Region.wanted o (yielded ops tm) = false)
    (h : SeqS P ops Q rest { tmps := tm.setIfInBounds d undef, defers := df } w) : SeqS P ops Q ((i, rd) :: rest) { tmps := tm, defers := df } w :=
  ⟨seqX_skip ho hd hw h.out⟩
theorem seqS_call {i : Nat} {rest : List (Nat × Bool)} {tm : Array Value} {df : List Deferred} {w : World} {o : Oper} {d : Tmp} (f : FuncId) (args : Array Value) (ho : ops[i]? = some o) (hd : o.dst = some d) (hw : Region.wanted o (yielded ops tm) = true)
    (hrun : (execOp (Act.eval { tmps := tm, defers := df }) o).run P w = .ok (.enter f args) w) (h : Calls P f args w fun e w' => ∃ v, e = .returned v ∧ Ext w w' ∧ SeqS P ops Q rest { tmps := tm.setIfInBounds d v, defers := df } w') : SeqS P ops Q ((i, false) :: rest) { tmps := tm, defers := df } w :=
  ⟨seqX_call f args ho hd hw hrun (h.mono fun _ _ ⟨v, he, hx, hs⟩ => ⟨v, he, hx, hs.out⟩)⟩
theorem seqS_done {a : Act} {w : World} (h : Q .normal a w) : SeqS P ops Q [] a w := ⟨h⟩
end

set_option maxHeartbeats 12800000 in
set_option maxRecDepth 100000 in
theorem walkN (ao : Option Addr) (n c : Nat) (xs : List Int) (N : Nat) (I : Int) (F : Nat) (S : ByteArray) (br : Option Addr) (nr cr : Nat) (zs : List Int) (w : World) (_hR : Rd w ao n c xs) (hRr : Rd w br nr cr zs) (hT : Tabs w)
    (hN : N < 18446744073709551616) (hI0 : -9223372036854775808 ≤ I) (hI1 : I ≤ 9223372036854775807) (hF : F < 18446744073709551616) :
    Calls Tryd.prog 4 #[.agg #[.slice ao n c, .int .u64 N, .int .i64 I, .int .u64 F, .string S], .slice br nr cr] w fun e w' => e = .returned (.bool true) ∧ Below w.heap.size w w' := by
  have hfr := run_from
  have hxw : Ext w (w.alloc (.cells #[.slice ao n c, .int .u64 N, .int .i64 I, .int .u64 F, .string S] 47)) := (Below.refl _ _).alloc (Nat.le_refl _) _
  have hbx := Box.new w (.slice ao n c) (.string S) N I F 47
  have hRr1 := hRr.carry (Nat.le_refl _) hxw
  have hT1 := hT.carry hxw
  clear hRr hT
  have hl10 := form_len10 N hN
  have hl10i := form_len10 (foldv I) (fold_lt I hI0 hI1)
  go_enter Tryd.func4, Tryd.ntmps4
  go_upto_region 8 with (first
    | (go_at_call 6; refine (fewR br nr cr zs _ hRr1).mono ?_; rintro e w1 ⟨a1, n1, c1, rfl, hn1, hr1, hx1⟩; obtain ⟨X, hXe⟩ : ∃ X, zs.take 2000 = X := ⟨_, rfl⟩; rw [hXe] at hr1; have hX : X.length ≤ 2000 := (by rw [← hXe, List.length_take]; omega); clear hXe hRr1; replace hbx := hbx.carry hx1; replace hT1 := hT1.carry hx1; replace hxw := hxw.trans hx1; clear hx1; have q1 := hbx.c1; have q2 := hbx.c2; have q3 := hbx.c3)
    | (go_at_call 18; refine (putUint_any none 0 0 [] N _ (rd_nil _) (by omega) hN).mono ?_; rintro e w2 ⟨v2, rfl, hown2, hb2⟩; rw [List.nil_append] at hown2)
    | (at_builtin; refine wp_app rfl (.tmp 28) (.tmp 29) rfl _ _ _ _ rfl hown2 a1 n1 c1 X rfl (hr1.carry (Nat.le_refl _) hb2) (by omega) hb2.size ?_; intro v3 w3 hown3 hgrow3; have hx3 : Ext w1 w3 := grownExt hb2 hown2 hgrow3; obtain ⟨a3, n3, c3, rfl, hr3⟩ := ownR ((form_bd N).append hr1.bytes) hown3; clear hown3 hgrow3 hown2 hb2; have hn3 := hr3.len; rw [List.length_append] at hn3; replace hr1 := hr1.carry (Nat.le_refl _) hx3; replace hbx := hbx.carry hx3; replace hT1 := hT1.carry hx3; replace hxw := hxw.trans hx3; clear hx3 q1 q2 q3)
    | (go_at_call 7; refine (uintPut N hN a3 n3 c3 X _ hr3 (by omega)).mono ?_; rintro e w4 ⟨a4, n4, c4, rfl, hr4, hx4⟩; replace hr1 := hr1.carry (Nat.le_refl _) hx4; replace hbx := hbx.carry hx4; replace hT1 := hT1.carry hx4; replace hxw := hxw.trans hx4; clear hx4 hr3; have q2 := hbx.c2)
    | (go_at_call 19; refine (putInt_any none 0 0 [] I _ (rd_nil _) (by omega) hI0 hI1).mono ?_; rintro e w5 ⟨v5, rfl, hown5, hb5⟩; rw [List.nil_append] at hown5)
    | (at_builtin; refine wp_app rfl (.tmp 38) (.tmp 39) rfl _ _ _ _ rfl hown5 a1 n1 c1 X rfl (hr1.carry (Nat.le_refl _) hb5) (by omega) hb5.size ?_; intro v6 w6 hown6 hgrow6; have hx6 : Ext w4 w6 := grownExt hb5 hown5 hgrow6; obtain ⟨a6, n6, c6, rfl, hr6⟩ := ownR ((form_bd (foldv I)).append hr1.bytes) hown6; clear hown6 hgrow6 hown5 hb5; have hn6 := hr6.len; rw [List.length_append] at hn6; replace hr1 := hr1.carry (Nat.le_refl _) hx6; replace hr4 := hr4.carry (Nat.le_refl _) hx6; replace hbx := hbx.carry hx6; replace hT1 := hT1.carry hx6; replace hxw := hxw.trans hx6; clear hx6 q2)
    | (go_at_call 9; refine (intPut I hI0 hI1 a6 n6 c6 X _ hr6 (by omega)).mono ?_; rintro e w7 ⟨a7, n7, c7, rfl, hr7, hx7⟩; replace hr1 := hr1.carry (Nat.le_refl _) hx7; replace hr4 := hr4.carry (Nat.le_refl _) hx7; replace hbx := hbx.carry hx7; replace hT1 := hT1.carry hx7; replace hxw := hxw.trans hx7; clear hx7 hr6)
    | (go_at_call 20; refine (putFloat_any none 0 0 [] F _ (rd_nil _) (by omega) hF).mono ?_; rintro e w8 ⟨v8, rfl, hown8, hb8⟩; rw [List.nil_append] at hown8)
    | (at_builtin; refine wp_app rfl (.tmp 47) (.tmp 48) rfl _ _ _ _ rfl hown8 a1 n1 c1 X rfl (hr1.carry (Nat.le_refl _) hb8) (by omega) hb8.size ?_; intro v9 w9 hown9 hgrow9; have hx9 : Ext w7 w9 := grownExt hb8 hown8 hgrow9; obtain ⟨a9, n9, c9, rfl, hr9⟩ := ownR ((fbl_bd (bitsv F) 8).append hr1.bytes) hown9; clear hown9 hgrow9 hown8 hb8; have hn9 := hr9.len; rw [List.length_append, fbl_len] at hn9; replace hr1 := hr1.carry (Nat.le_refl _) hx9; replace hr4 := hr4.carry (Nat.le_refl _) hx9; replace hr7 := hr7.carry (Nat.le_refl _) hx9; replace hbx := hbx.carry hx9; replace hT1 := hT1.carry hx9; replace hxw := hxw.trans hx9; clear hx9)
    | (go_at_call 11; refine (floatPut F hF a9 n9 c9 X _ hr9 (by omega)).mono ?_; rintro e w10 ⟨a10, n10, c10, rfl, hr10, hx10⟩; replace hr1 := hr1.carry (Nat.le_refl _) hx10; replace hr4 := hr4.carry (Nat.le_refl _) hx10; replace hr7 := hr7.carry (Nat.le_refl _) hx10; replace hbx := hbx.carry hx10; replace hT1 := hT1.carry hx10; replace hxw := hxw.trans hx10; clear hx10 hr9; have q1 := hbx.c1; have q2 := hbx.c2; have s1 := hr4.string; have s2 := hr7.string; have s3 := hr10.string; have s4 := hr1.string))
  go_cut [116] from 97 to 116 (fun s8 wx => s8 = .bool false ∧ Ext w10 wx)
  case first =>
    have q3 := hbx.c3
    have hbits := run_bits
    by_cases hna : Fl.nan F = true
    · have f1 : (FloatKind.f64.format.order F F == some .eq) = false := by have := nan_neq F; rw [hna] at this; simpa [bne] using this
      have f2 : (FloatKind.f64.format.order F F != some .eq) = true := by rw [nan_neq]; exact hna
      have f3 : (FloatKind.f64.format.order (bitsv F) (bitsv F) == some .eq) = false := by
        have e : bitsv F = NANF := by unfold bitsv; rw [hna]; rfl
        have := nan_neq (bitsv F); rw [e, nan_NANF] at this; rw [e]; simpa [bne] using this
      clear hna
      go_quiet (fail)
      go_wp2
      go_meet
      exact ⟨rfl, (Ext.refl _).drewN _⟩
    · have hna' : Fl.nan F = false := by simpa using hna
      have f1 : (FloatKind.f64.format.order F F == some .eq) = true := by have := nan_neq F; rw [hna'] at this; simpa [bne] using this
      have f2 : (FloatKind.f64.format.order F F != some .eq) = false := by rw [nan_neq]; exact hna'
      have f3 : (((bitsv F : Nat) : Int) != (F : Int)) = false := by
        have e : bitsv F = F := by unfold bitsv; rw [hna']; rfl
        rw [e]; simp
      clear hna hna'
      go_quiet (fail)
      go_wp2
      go_meet
      exact ⟨rfl, (Ext.refl _).drewN _⟩
  case rest =>
  obtain ⟨rfl, hx11⟩ := hcut
  replace hr1 := hr1.carry (Nat.le_refl _) hx11; replace hT1 := hT1.carry hx11; replace hxw := hxw.trans hx11; clear hx11
  clear hr4 hr7 hr10 hbx q1 q2 s1 s2 s3 s4 hl10 hl10i hn3 hn6 hn9 hfr
  go_upto_region 11 with (first
    | (go_at_call 6; refine (fewS a1 n1 c1 X _ hr1 hX).mono ?_; rintro e wfA ⟨af, nf, cf, rfl, hnf, hrf, hxf⟩; replace hr1 := hr1.carry (Nat.le_refl _) hxf; replace hT1 := hT1.carry hxf; replace hxw := hxw.trans hxf; clear hxf)
    | (go_at_call 7; refine (uintAny af nf cf X _ hrf (by omega)).mono ?_; rintro e wrA ⟨qA, aA, nA, cA, EA, RA, rfl, hqA, hrA, hwA, hxA⟩; replace hr1 := hr1.carry (Nat.le_refl _) hxA; replace hT1 := hT1.carry hxA; replace hxw := hxw.trans hxA; clear hxA; clear hrf hnf))
  go_cut [136] from 124 to 136 (fun s9 wx => s9 = .bool false ∧ Ext wrA wx)
  case first =>
    by_cases hZA : EA = 0
    · subst hZA
      have hcat : strOfNums (form qA) ++ strOfNums RA = strOfNums X := by rw [str_append]; exact congrArg strOfNums (hwA rfl)
      have hsz : (strOfNums (form qA)).size + (strOfNums RA).size ≤ 9223372036854775807 := by have g := congrArg ByteArray.size hcat; rw [ByteArray.size_append, strOfNums_size X] at g; omega
      have hrR := hrA.carry (Nat.le_refl _) (Ext.refl _).drew
      have hrX := hr1.carry (Nat.le_refl _) (Ext.refl _).drew
      clear hwA hrA hr1
      refine wp_region_seq [(0, true), (1, true), (2, true), (3, true), (6, true), (7, true), (9, true), (10, true), (4, false), (5, true), (8, true), (11, true), (12, true)] (by kernel_rfl) (by kernel_rfl) (by kernel_rfl) (by kernel_rfl) (fun _ _ d _ _ h => by cases d <;> exact h) ?_
      refine seqX_read ?vAa0 rfl rfl rfl (fun w' hE => ?hAa0) ?_
      case hAa0 => first | (go_simp; rfl) | go_simp
      simp only [List.setIfInBounds_toArray, List.set_cons_zero, List.set_cons_succ]
      refine seqX_read (.bool true) rfl rfl rfl (fun w' hE => ?hAa1) ?_
      case hAa1 => first | (go_simp; rfl) | go_simp
      simp only [List.setIfInBounds_toArray, List.set_cons_zero, List.set_cons_succ]
      refine seqX_read ?vAa2 rfl rfl rfl (fun w' hE => ?hAa2) ?_
      case hAa2 => first | (go_simp; rfl) | go_simp
      simp only [List.setIfInBounds_toArray, List.set_cons_zero, List.set_cons_succ]
      refine seqX_read ?vAa3 rfl rfl rfl (fun w' hE => ?hAa3) ?_
      case hAa3 => first | (go_simp; rfl) | go_simp
      simp only [List.setIfInBounds_toArray, List.set_cons_zero, List.set_cons_succ]
      refine seqX_read ?vAa6 rfl rfl rfl (fun w' hE => ?hAa6) ?_
      case hAa6 => first | (go_simp; rfl) | go_simp
      simp only [List.setIfInBounds_toArray, List.set_cons_zero, List.set_cons_succ]
      refine seqX_read ?vAa7 rfl rfl rfl (fun w' hE => ?hAa7) ?_
      case hAa7 => have q := (hrR.carry (Nat.le_refl _) hE).string; first | (go_simp; rfl) | go_simp
      simp only [List.setIfInBounds_toArray, List.set_cons_zero, List.set_cons_succ]
      refine seqX_read ?vAa9 rfl rfl rfl (fun w' hE => ?hAa9) ?_
      case hAa9 => first | (go_simp; rfl) | go_simp
      simp only [List.setIfInBounds_toArray, List.set_cons_zero, List.set_cons_succ]
      refine seqX_read ?vAa10 rfl rfl rfl (fun w' hE => ?hAa10) ?_
      case hAa10 => have q := (hrX.carry (Nat.le_refl _) hE).string; first | (go_simp; rfl) | go_simp
      simp only [List.setIfInBounds_toArray, List.set_cons_zero, List.set_cons_succ]
      refine seqX_call 18 ?aAa4 rfl rfl rfl ?rAa4 ?_
      case rAa4 => first | (go_simp; rfl) | go_simp
      refine (putR none 0 0 [] qA _ (rd_nil _) (by omega) hqA).mono ?_
      rintro e wp ⟨ap, np, cp, rfl, hrp, hxp⟩
      rw [List.nil_append] at hrp
      refine ⟨_, rfl, hxp, ?_⟩
      simp only [List.setIfInBounds_toArray, List.set_cons_zero, List.set_cons_succ]
      refine seqX_read ?vAa5 rfl rfl rfl (fun w' hE => ?hAa5) ?_
      case hAa5 => have q := (hrp.carry (Nat.le_refl _) hE).string; first | (go_simp; rfl) | go_simp
      simp only [List.setIfInBounds_toArray, List.set_cons_zero, List.set_cons_succ]
      refine seqX_read (.string (strOfNums X)) rfl rfl rfl (fun w' hE => ?hAa8) ?_
      case hAa8 => have q := hcat; have q2 := hsz; first | (go_simp; rfl) | go_simp
      simp only [List.setIfInBounds_toArray, List.set_cons_zero, List.set_cons_succ]
      refine seqX_read (.bool false) rfl rfl rfl (fun w' hE => ?hAa11) ?_
      case hAa11 => first | (go_simp; rfl) | go_simp
      simp only [List.setIfInBounds_toArray, List.set_cons_zero, List.set_cons_succ]
      refine seqX_read ?vAa12 rfl rfl rfl (fun w' hE => ?hAa12) ?_
      case hAa12 => first | (go_simp; rfl) | go_simp
      simp only [List.setIfInBounds_toArray, List.set_cons_zero, List.set_cons_succ]
      refine seqX_done ?_
      go_wp2
      go_meet
      exact ⟨rfl, (Ext.refl _).drew.trans hxp⟩
    · have hz : (((EA : Nat) : Int) == 0) = false := nz_beq hZA
      have hz' : (((EA : Nat) : Int) != 0) = true := nz_bne hZA
      clear hwA hrA hr1 hZA
      go_quiet (fail)
      go_wp2
      go_meet
      exact ⟨rfl, (Ext.refl _).drewN _⟩
  case rest =>
  obtain ⟨rfl, hx12⟩ := hcut
  replace hr1 := hr1.carry (Nat.le_refl _) hx12; replace hT1 := hT1.carry hx12; replace hxw := hxw.trans hx12; clear hx12
  clear hrA hwA hqA
  go_upto_region 14 with (first
    | (go_at_call 6; refine (fewS a1 n1 c1 X _ hr1 hX).mono ?_; rintro e wfB ⟨af, nf, cf, rfl, hnf, hrf, hxf⟩; replace hr1 := hr1.carry (Nat.le_refl _) hxf; replace hT1 := hT1.carry hxf; replace hxw := hxw.trans hxf; clear hxf)
    | (go_at_call 11; refine (floatAny af nf cf X _ hrf (by omega)).mono ?_; rintro e wrB ⟨qB, aB, nB, cB, EB, RB, rfl, hqB, hrB, hwB, hxB⟩; replace hr1 := hr1.carry (Nat.le_refl _) hxB; replace hT1 := hT1.carry hxB; replace hxw := hxw.trans hxB; clear hxB; clear hrf hnf))
  go_cut [156] from 144 to 156 (fun s10 wx => s10 = .bool false ∧ Ext wrB wx)
  case first =>
    by_cases hZB : EB = 0
    · subst hZB
      have hcat : strOfNums (fbl (bitsv qB) 8) ++ strOfNums RB = strOfNums X := by rw [str_append]; exact congrArg strOfNums (hwB rfl)
      have hsz : (strOfNums (fbl (bitsv qB) 8)).size + (strOfNums RB).size ≤ 9223372036854775807 := by have g := congrArg ByteArray.size hcat; rw [ByteArray.size_append, strOfNums_size X] at g; omega
      have hrR := hrB.carry (Nat.le_refl _) (Ext.refl _).drew
      have hrX := hr1.carry (Nat.le_refl _) (Ext.refl _).drew
      clear hwB hrB hr1
      refine wp_region_seq [(0, true), (1, true), (2, true), (3, true), (6, true), (7, true), (9, true), (10, true), (4, false), (5, true), (8, true), (11, true), (12, true)] (by kernel_rfl) (by kernel_rfl) (by kernel_rfl) (by kernel_rfl) (fun _ _ d _ _ h => by cases d <;> exact h) ?_
      refine seqX_read ?vBa0 rfl rfl rfl (fun w' hE => ?hBa0) ?_
      case hBa0 => first | (go_simp; rfl) | go_simp
      simp only [List.setIfInBounds_toArray, List.set_cons_zero, List.set_cons_succ]
      refine seqX_read (.bool true) rfl rfl rfl (fun w' hE => ?hBa1) ?_
      case hBa1 => first | (go_simp; rfl) | go_simp
      simp only [List.setIfInBounds_toArray, List.set_cons_zero, List.set_cons_succ]
      refine seqX_read ?vBa2 rfl rfl rfl (fun w' hE => ?hBa2) ?_
      case hBa2 => first | (go_simp; rfl) | go_simp
      simp only [List.setIfInBounds_toArray, List.set_cons_zero, List.set_cons_succ]
      refine seqX_read ?vBa3 rfl rfl rfl (fun w' hE => ?hBa3) ?_
      case hBa3 => first | (go_simp; rfl) | go_simp
      simp only [List.setIfInBounds_toArray, List.set_cons_zero, List.set_cons_succ]
      refine seqX_read ?vBa6 rfl rfl rfl (fun w' hE => ?hBa6) ?_
      case hBa6 => first | (go_simp; rfl) | go_simp
      simp only [List.setIfInBounds_toArray, List.set_cons_zero, List.set_cons_succ]
      refine seqX_read ?vBa7 rfl rfl rfl (fun w' hE => ?hBa7) ?_
      case hBa7 => have q := (hrR.carry (Nat.le_refl _) hE).string; first | (go_simp; rfl) | go_simp
      simp only [List.setIfInBounds_toArray, List.set_cons_zero, List.set_cons_succ]
      refine seqX_read ?vBa9 rfl rfl rfl (fun w' hE => ?hBa9) ?_
      case hBa9 => first | (go_simp; rfl) | go_simp
      simp only [List.setIfInBounds_toArray, List.set_cons_zero, List.set_cons_succ]
      refine seqX_read ?vBa10 rfl rfl rfl (fun w' hE => ?hBa10) ?_
      case hBa10 => have q := (hrX.carry (Nat.le_refl _) hE).string; first | (go_simp; rfl) | go_simp
      simp only [List.setIfInBounds_toArray, List.set_cons_zero, List.set_cons_succ]
      refine seqX_call 20 ?aBa4 rfl rfl rfl ?rBa4 ?_
      case rBa4 => first | (go_simp; rfl) | go_simp
      refine (putFloatR none 0 0 [] qB _ (rd_nil _) (by omega) hqB).mono ?_
      rintro e wp ⟨ap, np, cp, rfl, hrp, hxp⟩
      rw [List.nil_append] at hrp
      refine ⟨_, rfl, hxp, ?_⟩
      simp only [List.setIfInBounds_toArray, List.set_cons_zero, List.set_cons_succ]
      refine seqX_read ?vBa5 rfl rfl rfl (fun w' hE => ?hBa5) ?_
      case hBa5 => have q := (hrp.carry (Nat.le_refl _) hE).string; first | (go_simp; rfl) | go_simp
      simp only [List.setIfInBounds_toArray, List.set_cons_zero, List.set_cons_succ]
      refine seqX_read (.string (strOfNums X)) rfl rfl rfl (fun w' hE => ?hBa8) ?_
      case hBa8 => have q := hcat; have q2 := hsz; first | (go_simp; rfl) | go_simp
      simp only [List.setIfInBounds_toArray, List.set_cons_zero, List.set_cons_succ]
      refine seqX_read (.bool false) rfl rfl rfl (fun w' hE => ?hBa11) ?_
      case hBa11 => first | (go_simp; rfl) | go_simp
      simp only [List.setIfInBounds_toArray, List.set_cons_zero, List.set_cons_succ]
      refine seqX_read ?vBa12 rfl rfl rfl (fun w' hE => ?hBa12) ?_
      case hBa12 => first | (go_simp; rfl) | go_simp
      simp only [List.setIfInBounds_toArray, List.set_cons_zero, List.set_cons_succ]
      refine seqX_done ?_
      go_wp2
      go_meet
      exact ⟨rfl, (Ext.refl _).drew.trans hxp⟩
    · have hz : (((EB : Nat) : Int) == 0) = false := nz_beq hZB
      have hz' : (((EB : Nat) : Int) != 0) = true := nz_bne hZB
      clear hwB hrB hr1 hZB
      go_quiet (fail)
      go_wp2
      go_meet
      exact ⟨rfl, (Ext.refl _).drewN _⟩
  case rest =>
  obtain ⟨rfl, hx13⟩ := hcut
  replace hr1 := hr1.carry (Nat.le_refl _) hx13; replace hT1 := hT1.carry hx13; replace hxw := hxw.trans hx13; clear hx13
  clear hrB hwB hqB
  go_upto_region 17 with (first
    | (go_at_call 6; refine (fewS a1 n1 c1 X _ hr1 hX).mono ?_; rintro e wfC ⟨af, nf, cf, rfl, hnf, hrf, hxf⟩; replace hr1 := hr1.carry (Nat.le_refl _) hxf; replace hT1 := hT1.carry hxf; replace hxw := hxw.trans hxf; clear hxf)
    | (go_at_call 14; refine (textAny af nf cf X 5000 _ hrf hT1 (by omega) (by omega) (by omega)).mono ?_; rintro e wrC ⟨qC, aC, nC, cC, EC, RC, rfl, hqC, hrC, hwC, hxC⟩; replace hr1 := hr1.carry (Nat.le_refl _) hxC; replace hT1 := hT1.carry hxC; replace hxw := hxw.trans hxC; clear hxC; clear hrf hnf))
  by_cases hZC : EC = 0
  · subst hZC
    have hcat : strOfNums (form qC.size ++ nums qC) ++ strOfNums RC = strOfNums X := by rw [str_append]; exact congrArg strOfNums (hwC rfl)
    have hsz : (strOfNums (form qC.size ++ nums qC)).size + (strOfNums RC).size ≤ 9223372036854775807 := by have g := congrArg ByteArray.size hcat; rw [ByteArray.size_append, strOfNums_size X] at g; omega
    have hrR := hrC.carry (Nat.le_refl _) (Ext.refl _).drew
    have hrX := hr1.carry (Nat.le_refl _) (Ext.refl _).drew
    clear hwC hrC hr1
    refine wp_region_seq [(0, true), (1, true), (2, true), (3, true), (6, true), (7, true), (9, true), (10, true), (4, false), (5, true), (8, true), (11, true), (12, true), (13, true), (14, false), (15, true), (16, true)] (by kernel_rfl) (by kernel_rfl) (by kernel_rfl) (by kernel_rfl) (fun _ _ d _ _ h => by cases d <;> exact h) ?_
    refine seqX_read ?vCa0 rfl rfl rfl (fun w' hE => ?hCa0) ?_
    case hCa0 => first | (go_simp; rfl) | go_simp
    simp only [List.setIfInBounds_toArray, List.set_cons_zero, List.set_cons_succ]
    refine seqX_read (.bool false) rfl rfl rfl (fun w' hE => ?hCa1) ?_
    case hCa1 => first | (go_simp; rfl) | go_simp
    simp only [List.setIfInBounds_toArray, List.set_cons_zero, List.set_cons_succ]
    refine seqX_read ?vCa2 rfl rfl rfl (fun w' hE => ?hCa2) ?_
    case hCa2 => first | (go_simp; rfl) | go_simp
    simp only [List.setIfInBounds_toArray, List.set_cons_zero, List.set_cons_succ]
    refine seqX_read ?vCa3 rfl rfl rfl (fun w' hE => ?hCa3) ?_
    case hCa3 => first | (go_simp; rfl) | go_simp
    simp only [List.setIfInBounds_toArray, List.set_cons_zero, List.set_cons_succ]
    refine seqX_read ?vCa6 rfl rfl rfl (fun w' hE => ?hCa6) ?_
    case hCa6 => first | (go_simp; rfl) | go_simp
    simp only [List.setIfInBounds_toArray, List.set_cons_zero, List.set_cons_succ]
    refine seqX_read ?vCa7 rfl rfl rfl (fun w' hE => ?hCa7) ?_
    case hCa7 => have q := (hrR.carry (Nat.le_refl _) hE).string; first | (go_simp; rfl) | go_simp
    simp only [List.setIfInBounds_toArray, List.set_cons_zero, List.set_cons_succ]
    refine seqX_read ?vCa9 rfl rfl rfl (fun w' hE => ?hCa9) ?_
    case hCa9 => first | (go_simp; rfl) | go_simp
    simp only [List.setIfInBounds_toArray, List.set_cons_zero, List.set_cons_succ]
    refine seqX_read ?vCa10 rfl rfl rfl (fun w' hE => ?hCa10) ?_
    case hCa10 => have q := (hrX.carry (Nat.le_refl _) hE).string; first | (go_simp; rfl) | go_simp
    simp only [List.setIfInBounds_toArray, List.set_cons_zero, List.set_cons_succ]
    refine seqX_call 22 ?aCa4 rfl rfl rfl ?rCa4 ?_
    case rCa4 => first | (go_simp; rfl) | go_simp
    refine (putTextR none 0 0 [] qC _ (rd_nil _) (by omega) (by omega)).mono ?_
    rintro e wp ⟨ap, np, cp, rfl, hrp, hxp⟩
    rw [List.nil_append] at hrp
    refine ⟨_, rfl, hxp, ?_⟩
    simp only [List.setIfInBounds_toArray, List.set_cons_zero, List.set_cons_succ]
    refine seqX_read ?vCa5 rfl rfl rfl (fun w' hE => ?hCa5) ?_
    case hCa5 => have q := (hrp.carry (Nat.le_refl _) hE).string; first | (go_simp; rfl) | go_simp
    simp only [List.setIfInBounds_toArray, List.set_cons_zero, List.set_cons_succ]
    refine seqX_read (.string (strOfNums X)) rfl rfl rfl (fun w' hE => ?hCa8) ?_
    case hCa8 => have q := hcat; have q2 := hsz; first | (go_simp; rfl) | go_simp
    simp only [List.setIfInBounds_toArray, List.set_cons_zero, List.set_cons_succ]
    refine seqX_read (.bool true) rfl rfl rfl (fun w' hE => ?hCa11) ?_
    case hCa11 => first | (go_simp; rfl) | go_simp
    simp only [List.setIfInBounds_toArray, List.set_cons_zero, List.set_cons_succ]
    refine seqX_read ?vCa12 rfl rfl rfl (fun w' hE => ?hCa12) ?_
    case hCa12 => first | (go_simp; rfl) | go_simp
    simp only [List.setIfInBounds_toArray, List.set_cons_zero, List.set_cons_succ]
    refine seqX_read ?vCa13 rfl rfl rfl (fun w' hE => ?hCa13) ?_
    case hCa13 => first | (go_simp; rfl) | go_simp
    simp only [List.setIfInBounds_toArray, List.set_cons_zero, List.set_cons_succ]
    refine seqX_call 16 ?aCa14 rfl rfl rfl ?rCa14 ?_
    case rCa14 => first | (go_simp; rfl) | go_simp
    refine (wakes_any _).mono ?_
    rintro e wq ⟨rfl, hxq⟩
    refine ⟨_, rfl, hxq, ?_⟩
    simp only [List.setIfInBounds_toArray, List.set_cons_zero, List.set_cons_succ]
    refine seqX_read ?vCa15 rfl rfl rfl (fun w' hE => ?hCa15) ?_
    case hCa15 => first | (go_simp; rfl) | go_simp
    simp only [List.setIfInBounds_toArray, List.set_cons_zero, List.set_cons_succ]
    refine seqX_read ?vCa16 rfl rfl rfl (fun w' hE => ?hCa16) ?_
    case hCa16 => first | (go_simp; rfl) | go_simp
    simp only [List.setIfInBounds_toArray, List.set_cons_zero, List.set_cons_succ]
    refine seqX_done ?_
    go_wp2
    go_ret
    exact ⟨rfl, (((hxw.trans ((Ext.refl _).drew)).trans hxp).trans hxq)⟩
  · have hz : (((EC : Nat) : Int) == 0) = false := nz_beq hZC
    have hz' : (((EC : Nat) : Int) != 0) = true := nz_bne hZC
    clear hwC hrC hr1 hZC
    refine wp_region_seqS [(0, true), (1, true), (2, true), (3, true), (6, true), (7, true), (9, true), (10, true), (4, false), (5, true), (8, true), (11, true), (12, true), (13, true), (14, false), (15, true), (16, true)] (by kernel_rfl) (by kernel_rfl) (by kernel_rfl) (by kernel_rfl) (fun _ _ d _ _ h => by cases d <;> exact h) ?_
    refine seqS_read ?vCb0 rfl rfl rfl (fun w' hE => ?hCb0) ?_
    case hCb0 => first | (go_simp; rfl) | go_simp
    simp only [List.setIfInBounds_toArray, List.set_cons_zero, List.set_cons_succ]
    refine seqS_read (.bool true) rfl rfl rfl (fun w' hE => ?hCb1) ?_
    case hCb1 => go_simp
    simp only [List.setIfInBounds_toArray, List.set_cons_zero, List.set_cons_succ]
    clear hz hz'
    refine seqS_read (.bool true) rfl rfl rfl (fun w' hE => ?hCb2) ?_
    case hCb2 => go_simp
    simp only [List.setIfInBounds_toArray, List.set_cons_zero, List.set_cons_succ]
    refine seqS_skip rfl rfl rfl ?_
    simp only [List.setIfInBounds_toArray, List.set_cons_zero, List.set_cons_succ]
    refine seqS_skip rfl rfl rfl ?_
    simp only [List.setIfInBounds_toArray, List.set_cons_zero, List.set_cons_succ]
    refine seqS_skip rfl rfl rfl ?_
    simp only [List.setIfInBounds_toArray, List.set_cons_zero, List.set_cons_succ]
    refine seqS_skip rfl rfl rfl ?_
    simp only [List.setIfInBounds_toArray, List.set_cons_zero, List.set_cons_succ]
    refine seqS_skip rfl rfl rfl ?_
    simp only [List.setIfInBounds_toArray, List.set_cons_zero, List.set_cons_succ]
    refine seqS_skip rfl rfl rfl ?_
    simp only [List.setIfInBounds_toArray, List.set_cons_zero, List.set_cons_succ]
    refine seqS_skip rfl rfl rfl ?_
    simp only [List.setIfInBounds_toArray, List.set_cons_zero, List.set_cons_succ]
    refine seqS_skip rfl rfl rfl ?_
    simp only [List.setIfInBounds_toArray, List.set_cons_zero, List.set_cons_succ]
    refine seqS_skip rfl rfl rfl ?_
    simp only [List.setIfInBounds_toArray, List.set_cons_zero, List.set_cons_succ]
    refine seqS_read (.bool true) rfl rfl rfl (fun w' hE => ?hCb12) ?_
    case hCb12 => go_simp
    simp only [List.setIfInBounds_toArray, List.set_cons_zero, List.set_cons_succ]
    refine seqS_read (.bool true) rfl rfl rfl (fun w' hE => ?hCb13) ?_
    case hCb13 => go_simp
    simp only [List.setIfInBounds_toArray, List.set_cons_zero, List.set_cons_succ]
    refine seqS_call 16 ?aCb14 rfl rfl rfl ?rCb14 ?_
    case rCb14 => first | (go_simp; rfl) | go_simp
    refine (wakes_any _).mono ?_
    rintro e wq ⟨rfl, hxq⟩
    refine ⟨_, rfl, hxq, ?_⟩
    simp only [List.setIfInBounds_toArray, List.set_cons_zero, List.set_cons_succ]
    refine seqS_read (.bool true) rfl rfl rfl (fun w' hE => ?hCb15) ?_
    case hCb15 => go_simp
    simp only [List.setIfInBounds_toArray, List.set_cons_zero, List.set_cons_succ]
    refine seqS_read (.bool true) rfl rfl rfl (fun w' hE => ?hCb16) ?_
    case hCb16 => go_simp
    simp only [List.setIfInBounds_toArray, List.set_cons_zero, List.set_cons_succ]
    refine seqS_done ?_
    go_wp2
    go_ret
    exact ⟨rfl, ((hxw.trans ((Ext.refl _).drew)).trans hxq)⟩

end Go.Proofs.YtephpbbooicfoaaDoor.octetBack
