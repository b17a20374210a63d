/- Texts of one seat, one behind the other: RoF, RoG, RoH. -/
import Derived.Test.YtppdopcghnfapaaGreatDoorM3
import Derived.Deep.CutRange
/- roster: act. -/
set_option maxRecDepth 100000
namespace Go.Proofs.YtppdopcghnfapaaGreatDoor
open Go.RowKit Go.Joins

theorem exec_load_half {o : Oper} {ρ : Operand → Value} {w : World} (x : Operand) (ho : o.op = .load 49 x) (g : Nat) (hx : ρ x = .pointer (some ⟨g, 0, none⟩)) (h : Hf) (hg : HfAt w g h) :
    (execOp ρ o).run Tryz.prog w = .ok (.value (hfv h)) w := by
  unfold execOp
  simp only [ho, hx, Instr.loadAt, Instr.sureAddr, Sem.run_bind, Sem.run_pure, Result.andThen_ok, hg.load]
theorem wp_load_half {ops : Array Oper} {rest : List Oper} {o : Oper} {a : Act} {w : World} {Q : Exit → Act → World → Prop} (hgd : o.guard = none) (x : Operand) (ho : o.op = .load 49 x) (g : Nat) (hx : a.eval x = .pointer (some ⟨g, 0, none⟩)) (h : Hf) (hg : HfAt w g h)
    (hk : wpList Tryz.prog ops Q rest (a.put o.dst (hfv h)) w) : wpList Tryz.prog ops Q (o :: rest) a w := by
  refine wpList_plain hgd fun K' hK' => ?_
  unfold Oper.wp
  rw [exec_load_half x ho g hx h hg]
  exact hK' _ _ hk
theorem res_row {fn : Func} {p : Tmp} {ty : TypeId} (h : fn.results = #[.cell p ty]) (tmps : Array Value) (w : World) (g : Nat) (cs : Array Value) (hp : tmps.getD p undef = .pointer (some ⟨g, 0, none⟩))
    (hl : (loadVar ty ⟨g, 0, none⟩).run Tryz.prog w = .ok (.agg cs) w) : (results fn tmps).run Tryz.prog w = .ok (.agg cs) w := by
  have hp' : tmps[p]?.getD undef = .pointer (some ⟨g, 0, none⟩) := by simpa using hp
  simp [results, h, hp', asAddr, hl]

/-- What lies in memory while an act or a mail is worked on: the roster; the answer, the entry and the half in variables. -/
structure AInv (w : World) (q mb : Nat) (ac : Array Value) (ty : TypeId) (R : Ro) (b1 : Nat) (x : En) (g : Nat) (t : Hf) (wx : World) : Prop where
  ra : RA wx q mb R
  en : EnAt wx b1 x
  hf : HfAt wx g t
  ac : wx.heap[w.heap.size]? = some (.cells ac ty (0, 0))
  kp : Keep (fun j => j = q ∨ j = mb) w wx
  lq : q < w.heap.size
  lm : mb < w.heap.size
  l1 : w.heap.size < b1
  l2 : b1 < g
section
variable {w wx w' : World} {q mb : Nat} {ac : Array Value} {ty : TypeId} {R : Ro} {b1 : Nat} {x : En} {g : Nat} {t : Hf}
theorem AInv.below (I : AInv w q mb ac ty R b1 x g t wx) (hb : Below wx.heap.size wx w') : AInv w q mb ac ty R b1 x g t w' :=
  ⟨I.ra.below hb, I.en.carry hb, box_below I.hf hb, box_below I.ac hb, I.kp.trans (Keep.ofBelow hb), I.lq, I.lm, I.l1, I.l2⟩
theorem AInv.put (I : AInv w q mb ac ty R b1 x g t wx) (x' : En) : AInv w q mb ac ty R b1 x' g t (wx.setRow b1 (enc x')) := by
  have k := rowK wx b1 (enc x')
  have := I.lq; have := I.lm; have := I.l1; have := I.l2
  exact ⟨I.ra.keep k (by omega) (by omega), I.en.set x', box_keep I.hf k (by omega), box_keep I.ac k (by omega), I.kp.andThen k (fun i h1 h2 => by omega), I.lq, I.lm, I.l1, I.l2⟩
theorem AInv.nxt (I : AInv w q mb ac ty R b1 x g t wx) (v : Int) : AInv w q mb ac ty { R with nx := v } b1 x g t (wx.setCell ⟨q, 3, none⟩ (.int .u64 v)) := by
  have k := setK wx q 3 (.int .u64 v)
  have := I.lq; have := I.lm; have := I.l1; have := I.l2
  exact ⟨I.ra.set 3 _ _ rfl rfl rfl, box_keep I.en k (by omega), box_keep I.hf k (by omega), box_keep I.ac k (by omega), I.kp.trans (k.mono (fun i e => Or.inl e)), I.lq, I.lm, I.l1, I.l2⟩
theorem AInv.turned (I : AInv w q mb ac ty R b1 x g t wx) {R' : Ro} (h : RA w' q mb R') (k : Keep (fun j => j = q ∨ j = mb) wx w') : AInv w q mb ac ty R' b1 x g t w' := by
  have := I.lq; have := I.lm; have := I.l1; have := I.l2
  exact ⟨h, box_keep I.en k (by omega), box_keep I.hf k (by omega), box_keep I.ac k (by omega), I.kp.trans k, I.lq, I.lm, I.l1, I.l2⟩
theorem AInv.answer (I : AInv w q mb ac ty R b1 x g t wx) (v : Array Value) : RA (wx.setRow w.heap.size v) q mb R ∧ (wx.setRow w.heap.size v).heap[w.heap.size]? = some (.cells v ty (0, 0)) ∧ Keep (fun j => j = q ∨ j = mb) w (wx.setRow w.heap.size v) := by
  have k := rowK wx w.heap.size v
  have := I.lq; have := I.lm; have := I.l1; have := I.l2
  exact ⟨I.ra.keep k (by omega) (by omega), setRow_heap wx w.heap.size _ _ ty (0, 0) I.ac, I.kp.andThen k (fun i h1 h2 => by omega)⟩
end

/-- Ahead of the call of the machine. -/
def Pre (w : World) (q mb : Nat) (R : Ro) (b1 : Nat) (x : En) (wx : World) : Prop :=
  EnAt wx b1 x ∧ RA wx q mb R ∧ wx.heap[w.heap.size]? = some (.cells (acc 0 0 false) 99 (0, 0)) ∧ Keep (fun j => j = q ∨ j = mb) w wx ∧ q < w.heap.size ∧ mb < w.heap.size ∧ w.heap.size < b1 ∧ b1 < wx.heap.size
section
variable {w wx w' : World} {q mb : Nat} {R : Ro} {b1 : Nat} {x : En}
theorem Pre.below (I : Pre w q mb R b1 x wx) (hb : Below wx.heap.size wx w') : Pre w q mb R b1 x w' :=
  ⟨I.1.carry hb, I.2.1.below hb, box_below I.2.2.1 hb, I.2.2.2.1.trans (Keep.ofBelow hb), I.2.2.2.2.1, I.2.2.2.2.2.1, I.2.2.2.2.2.2.1, Nat.lt_of_lt_of_le I.2.2.2.2.2.2.2 hb.size⟩
theorem Pre.drew (I : Pre w q mb R b1 x wx) : Pre w q mb R b1 x wx.drew := I.below (Below.refl _ _).drew
theorem Pre.row (I : Pre w q mb R b1 x wx) {g : Nat} {t : Hf} (hg : b1 < g) : Pre w q mb R b1 x (wx.setRow g (hfc t)) := by
  have k := rowK wx g (hfc t)
  have := I.2.2.2.2.1; have := I.2.2.2.2.2.1; have := I.2.2.2.2.2.2.1
  exact ⟨I.1.keep k (by omega), I.2.1.keep k (by omega) (by omega), box_keep I.2.2.1 k (by omega), I.2.2.2.1.andThen k (fun i h1 h2 => by omega), I.2.2.2.2.1, I.2.2.2.2.2.1, I.2.2.2.2.2.2.1, Nat.lt_of_lt_of_le I.2.2.2.2.2.2.2 k.size⟩
theorem Pre.inv (I : Pre w q mb R b1 x wx) {g : Nat} {t : Hf} (hg : HfAt wx g t) (hl : b1 < g) : AInv w q mb (acc 0 0 false) 99 R b1 x g t wx :=
  ⟨I.2.1, I.1, hg, I.2.2.1, I.2.2.2.1, I.2.2.2.2.1, I.2.2.2.2.2.1, I.2.2.2.2.2.2.1, hl⟩
end
set_option maxHeartbeats 3200000 in
theorem act_1 (w : World) (q mb : Nat) (R : Ro) (h : RA w q mb R) (c : ByteArray) (hc : c.size ≤ 1000000) (kind : Int) (x : En) (hx : ofE R c = x) (hxc : x.c.size ≤ 1000000) (t : Hf) (mm nn : Int) (en : Nat) (hA : actA x.h kind (R.nx + 1) = ((t, mm, nn), en))
    (hn : 0 ≤ R.nx ∧ R.nx < 9223372036854775807) (hl : R.ks.length < 900000) (hk : -1000000 < R.kept ∧ R.kept < 1000000) (hv : 0 ≤ R.ver ∧ R.ver < 9223372036854775807) (hen : en ≠ 0) :
    Calls Tryz.prog 58 #[.pointer (some ⟨q, 0, none⟩), .string c, .int .i64 kind] w fun e w' => e = .panicked (gaveR en) ∧ RA w' q mb (R) ∧ Keep (fun j => j = q ∨ j = mb) w w' := by
  have cA : Hid (∀ w, Calls Tryz.prog 97 #[.agg #[.int .i64 x.h.o, .int .u64 x.h.n, .int .i64 x.h.i, .int .u64 x.h.m], .int .i64 kind, .int .u64 (R.nx + 1)] w fun e w' => e = .returned (.tuple #[.agg #[.int .i64 t.o, .int .u64 t.n, .int .i64 t.i, .int .u64 t.m], .int .i64 mm, .int .u64 nn, .int .i64 en]) ∧ Below w.heap.size w w') := by
    show ∀ w, _
    intro w
    have := Act_any x.h kind (R.nx + 1) w
    rw [hA] at this
    exact this
  have hwn : Hid (IntKind.wrap .u64 (R.nx + 1) = R.nx + 1) := by show _ = _; simp [IntKind.wrap, IntKind.bits, IntKind.signed]; omega
  have cO := of_any (w.alloc (.cells (acc 0 0 false) 99)) q mb R (h.below (below1 _ _)) c hc
  rw [hx] at cO
  have HB : Hid ((-1000000 < R.kept ∧ R.kept < 1000000) ∧ (0 ≤ R.ver ∧ R.ver < 9223372036854775807) ∧ R.ks.length < 900000 ∧ x.c.size ≤ 1000000) := ⟨hk, hv, hl, hxc⟩
  have HR : Hid (RA w q mb R) := h
  have z0 : ((en : Int) == 0) = false := by rw [beq_eq_false_iff_ne]; omega
  have HE : Hid (en ≠ 0) := hen
  clear hen
  clear hA hx hn hl hk hv hxc h hc
  obtain ⟨V, HVv⟩ : ∃ V, Hid (env x = V) := ⟨_, rfl⟩
  have HX2 : Hid (V = .agg (enc x)) := by show _ = _; rw [← HVv.out]; rfl
  rw [show env x = .agg (enc x) from rfl] at cO
  clear HVv
  go_enter Tryz.func58, Tryz.ntmps58
  unfold enc gsv at cO
  go_upto_region 2 with (first
    | (go_at_call 92; refine cO.mono ?_; clear cO; rintro e w1 ⟨rfl, hb1⟩))
  have P0 : Pre w q mb R w1.heap.size x (w1.alloc (.cells (enc x) 51)) := by
    have e1 : (w.alloc (.cells (acc 0 0 false) 99)).heap.size = w.heap.size + 1 := by simp
    have s1 := hb1.size
    have k1 : Keep (fun j => j = q ∨ j = mb) w w1 := (Keep.ofBelow (below1 w _)).trans (Keep.ofBelow hb1)
    exact ⟨EnAt.made _ _, ((HR.out.below (below1 w _)).below hb1).below (below1 _ _), box_below (box_below (push_at _ _ rfl) hb1) (below1 _ _), k1.trans (Keep.ofBelow (below1 _ _)), HR.out.lt, HR.out.map.lt, by omega, by simp⟩
  unfold enc gsv at P0
  obtain ⟨b1, Hb1⟩ : ∃ b1, Hid (w1.heap.size = b1) := ⟨_, rfl⟩
  rw [Hb1.out] at P0 ⊢
  generalize w1.alloc _ = w2 at P0 ⊢
  clear hb1
  go_cut [8, 9, 10, 11] from 8 to 28 (fun s8 s9 s10 s11 wx => ∃ g, s8 = .pointer (some ⟨g, 0, none⟩) ∧ s9 = .int .i64 mm ∧ s10 = .int .u64 nn ∧ s11 = .int .i64 en ∧ AInv w q mb (acc 0 0 false) 99 R b1 x g t wx)
  case first =>
    refine wp_region_lx (fun w' => EnAt w' b1 x ∧ RA w' q mb R) [] 19 (by kernel_rfl) (by kernel_rfl) ?_
    have P1 := P0.drew
    generalize w2.drew = W at P1 ⊢
    have HW := And.intro P1.1 P1.2.1
    refine lx_r 0 (.pointer (some ⟨b1, 4, none⟩)) HW ?_; simp only [lxa, lxb, lxc]
    refine lx_r 1 (.agg #[.int .i64 x.h.o, .int .u64 x.h.n, .int .i64 x.h.i, .int .u64 x.h.m]) HW ?_ (hv := fun w' hS => by have z0 := hS.1.c4; have z1 := hS.1.c5; have z2 := hS.1.c6; have z3 := hS.1.c7; first | (go_simp; rfl) | go_simp); simp only [lxa, lxb, lxc]
    refine lx_r 2 (.int .i64 kind) HW ?_; simp only [lxa, lxb, lxc]
    refine lx_r 3 (.pointer (some ⟨q, 0, none⟩)) HW ?_; simp only [lxa, lxb, lxc]
    refine lx_r 4 (.pointer (some ⟨q, 0, none⟩)) HW ?_; simp only [lxa, lxb, lxc]
    refine lx_r 5 (.pointer (some ⟨q, 3, none⟩)) HW ?_; simp only [lxa, lxb, lxc]
    refine lx_r 6 (.int .u64 R.nx) HW ?_ (hv := fun w' hS => by have z0 := hS.2.c3; first | (go_simp; rfl) | go_simp); simp only [lxa, lxb, lxc]
    refine lx_r 7 (.int .u64 (R.nx + 1)) HW ?_ (hv := fun w' hS => by have z0 := hwn.out; first | (go_simp; rfl) | go_simp); simp only [lxa, lxb, lxc]
    refine lx_two 8 14 (by kernel_rfl) ?_ ?_
    · refine stepT_call 97 ?c1 rfl rfl rfl ?d1 ?_
      case d1 => first | (go_simp; rfl) | go_simp
      refine (cA.out W).mono ?_
      rintro e w5 ⟨rfl, hb1⟩
      have P5 := P1.below hb1
      refine ⟨_, rfl, fun _ => ⟨P5.1, P5.2.1⟩, ?_⟩
      simp only [lxa, lxb, lxc]
      have HV : EnAt w5 b1 x ∧ RA w5 q mb R := ⟨P5.1, P5.2.1⟩
      refine lx_r 9 (.tuple #[.agg #[.int .i64 t.o, .int .u64 t.n, .int .i64 t.i, .int .u64 t.m], .int .i64 mm, .int .u64 nn, .int .i64 en]) HV ?_; simp only [lxa, lxb, lxc]
      refine lx_r 10 (.agg #[.int .i64 t.o, .int .u64 t.n, .int .i64 t.i, .int .u64 t.m]) HV ?_; simp only [lxa, lxb, lxc]
      refine lx_r 11 (.int .i64 mm) HV ?_; simp only [lxa, lxb, lxc]
      refine lx_r 12 (.int .u64 nn) HV ?_; simp only [lxa, lxb, lxc]
      refine lx_r 13 (.int .i64 en) HV ?_; simp only [lxa, lxb, lxc]
      refine lx_one 14 (by kernel_rfl) ?_
      have hb2 := below1 w5 (.cells #[.int .i64 0, .int .u64 0, .int .i64 0, .int .u64 0] 49)
      have P6 := P5.below hb2
      have G2 : HfAt (w5.alloc (.cells #[.int .i64 0, .int .u64 0, .int .i64 0, .int .u64 0] 49)) w5.heap.size ⟨0, 0, 0, 0⟩ := push_at _ _ rfl
      have gl : b1 < w5.heap.size := P5.1.lt
      refine stepT_val (w' := w5.alloc (.cells #[.int .i64 0, .int .u64 0, .int .i64 0, .int .u64 0] 49)) (.pointer (some ⟨w5.heap.size, 0, none⟩)) rfl rfl rfl ?d2 (fun _ => ⟨P6.1, P6.2.1⟩) ?_
      case d2 => first | (go_simp; rfl) | go_simp
      simp only [lxa, lxb, lxc]
      have PY : Pre w q mb R b1 x ((w5.alloc (.cells #[.int .i64 0, .int .u64 0, .int .i64 0, .int .u64 0] 49)).setRow w5.heap.size (hfc t)) := P6.row (by have := P6.2.2.2.2.2.2; omega)
      have G9 : HfAt ((w5.alloc (.cells #[.int .i64 0, .int .u64 0, .int .i64 0, .int .u64 0] 49)).setRow w5.heap.size (hfc t)) w5.heap.size t := G2.set t
      refine lx_one 15 (by kernel_rfl) (stepT_store (w' := (w5.alloc (.cells #[.int .i64 0, .int .u64 0, .int .i64 0, .int .u64 0] 49)).setRow w5.heap.size (hfc t)) rfl rfl rfl ?s1 (fun _ => ⟨PY.1, PY.2.1⟩) ?_)
      case s1 => exact exec_store_half (.tmp 8) (.tmp 25) rfl w5.heap.size rfl t rfl _ G2
      generalize (w5.alloc (.cells #[.int .i64 0, .int .u64 0, .int .i64 0, .int .u64 0] 49)).setRow w5.heap.size (hfc t) = WY at PY G9 ⊢
      refine lx_one 16 (by kernel_rfl) (stepT_val (w' := WY) (.int .i64 mm) rfl rfl rfl ?v10 (fun _ => ⟨PY.1, PY.2.1⟩) ?_)
      case v10 => first | (go_simp; rfl) | (go_simp; done)
      simp only [lxa, lxb, lxc]
      refine lx_one 17 (by kernel_rfl) (stepT_val (w' := WY) (.int .u64 nn) rfl rfl rfl ?v11 (fun _ => ⟨PY.1, PY.2.1⟩) ?_)
      case v11 => first | (go_simp; rfl) | (go_simp; done)
      simp only [lxa, lxb, lxc]
      refine lx_one 18 (by kernel_rfl) (stepT_val (w' := WY) (.int .i64 en) rfl rfl rfl ?v12 (fun _ => ⟨PY.1, PY.2.1⟩) ?_)
      case v12 => first | (go_simp; rfl) | (go_simp; done)
      simp only [lxa, lxb, lxc]
      refine lx_nil (by kernel_rfl) ?_
      go_wp2_with fail
      go_meet
      exact ⟨w5.heap.size, rfl, rfl, rfl, rfl, PY.inv G9 (by omega)⟩
    · have hb2 := below1 W (.cells #[.int .i64 0, .int .u64 0, .int .i64 0, .int .u64 0] 49)
      have P6 := P1.below hb2
      have G2 : HfAt (W.alloc (.cells #[.int .i64 0, .int .u64 0, .int .i64 0, .int .u64 0] 49)) W.heap.size ⟨0, 0, 0, 0⟩ := push_at _ _ rfl
      have gl : b1 < W.heap.size := P1.1.lt
      refine stepT_val (w' := W.alloc (.cells #[.int .i64 0, .int .u64 0, .int .i64 0, .int .u64 0] 49)) (.pointer (some ⟨W.heap.size, 0, none⟩)) rfl rfl rfl ?e2 (fun _ => ⟨P6.1, P6.2.1⟩) ?_
      case e2 => first | (go_simp; rfl) | go_simp
      simp only [lxa, lxb, lxc]
      refine lx_one 8 (by kernel_rfl) ?_
      refine stepT_call 97 ?c2 rfl rfl rfl ?e1 ?_
      case e1 => first | (go_simp; rfl) | go_simp
      refine (cA.out _).mono ?_
      rintro e w6 ⟨rfl, hb1⟩
      have P7 := P6.below hb1
      have G4 : HfAt w6 W.heap.size ⟨0, 0, 0, 0⟩ := box_below G2 hb1
      refine ⟨_, rfl, fun _ => ⟨P7.1, P7.2.1⟩, ?_⟩
      simp only [lxa, lxb, lxc]
      have HV : EnAt w6 b1 x ∧ RA w6 q mb R := ⟨P7.1, P7.2.1⟩
      refine lx_r 9 (.tuple #[.agg #[.int .i64 t.o, .int .u64 t.n, .int .i64 t.i, .int .u64 t.m], .int .i64 mm, .int .u64 nn, .int .i64 en]) HV ?_; simp only [lxa, lxb, lxc]
      refine lx_r 10 (.agg #[.int .i64 t.o, .int .u64 t.n, .int .i64 t.i, .int .u64 t.m]) HV ?_; simp only [lxa, lxb, lxc]
      refine lx_r 11 (.int .i64 mm) HV ?_; simp only [lxa, lxb, lxc]
      refine lx_r 12 (.int .u64 nn) HV ?_; simp only [lxa, lxb, lxc]
      refine lx_r 13 (.int .i64 en) HV ?_; simp only [lxa, lxb, lxc]
      have PY : Pre w q mb R b1 x (w6.setRow W.heap.size (hfc t)) := P7.row (by have := P7.2.2.2.2.2.2; omega)
      have G9 : HfAt (w6.setRow W.heap.size (hfc t)) W.heap.size t := G4.set t
      refine lx_one 15 (by kernel_rfl) (stepT_store (w' := w6.setRow W.heap.size (hfc t)) rfl rfl rfl ?s2 (fun _ => ⟨PY.1, PY.2.1⟩) ?_)
      case s2 => exact exec_store_half (.tmp 8) (.tmp 25) rfl W.heap.size rfl t rfl _ G4
      generalize w6.setRow W.heap.size (hfc t) = WY at PY G9 ⊢
      refine lx_one 16 (by kernel_rfl) (stepT_val (w' := WY) (.int .i64 mm) rfl rfl rfl ?v20 (fun _ => ⟨PY.1, PY.2.1⟩) ?_)
      case v20 => first | (go_simp; rfl) | (go_simp; done)
      simp only [lxa, lxb, lxc]
      refine lx_one 17 (by kernel_rfl) (stepT_val (w' := WY) (.int .u64 nn) rfl rfl rfl ?v21 (fun _ => ⟨PY.1, PY.2.1⟩) ?_)
      case v21 => first | (go_simp; rfl) | (go_simp; done)
      simp only [lxa, lxb, lxc]
      refine lx_one 18 (by kernel_rfl) (stepT_val (w' := WY) (.int .i64 en) rfl rfl rfl ?v22 (fun _ => ⟨PY.1, PY.2.1⟩) ?_)
      case v22 => first | (go_simp; rfl) | (go_simp; done)
      simp only [lxa, lxb, lxc]
      refine lx_nil (by kernel_rfl) ?_
      go_wp2_with fail
      go_meet
      exact ⟨W.heap.size, rfl, rfl, rfl, rfl, PY.inv G9 (by omega)⟩
  case rest =>
    obtain ⟨g, rfl, rfl, rfl, rfl, I⟩ := hcut
    have HI : Hid (AInv w q mb (acc 0 0 false) 99 R b1 x g t wc) := I
    clear I P0
    have hd0 := fun w => demR_no en w
    go_wp2_with (first
      | (go_at_call 69; refine (hd0 _).mono ?_; rintro e w3 ⟨rfl, hw3⟩; subst hw3))
    exact ⟨rfl, rfl, HI.out.ra, HI.out.kp⟩
set_option maxHeartbeats 3200000 in
theorem act_2 (w : World) (q mb : Nat) (R : Ro) (h : RA w q mb R) (c : ByteArray) (hc : c.size ≤ 1000000) (kind : Int) (x : En) (hx : ofE R c = x) (hxc : x.c.size ≤ 1000000) (t : Hf) (mm nn : Int) (en : Nat) (hA : actA x.h kind (R.nx + 1) = ((t, mm, nn), en))
    (hn : 0 ≤ R.nx ∧ R.nx < 9223372036854775807) (hl : R.ks.length < 900000) (hk : -1000000 < R.kept ∧ R.kept < 1000000) (hv : 0 ≤ R.ver ∧ R.ver < 9223372036854775807) (hen : en = 0) (hmm : mm = 0) :
    Calls Tryz.prog 58 #[.pointer (some ⟨q, 0, none⟩), .string c, .int .i64 kind] w fun e w' => GaveV 0 (.agg (acc 0 0 false)) e ∧ RA w' q mb (R) ∧ Keep (fun j => j = q ∨ j = mb) w w' := by
  have cA : Hid (∀ w, Calls Tryz.prog 97 #[.agg #[.int .i64 x.h.o, .int .u64 x.h.n, .int .i64 x.h.i, .int .u64 x.h.m], .int .i64 kind, .int .u64 (R.nx + 1)] w fun e w' => e = .returned (.tuple #[.agg #[.int .i64 t.o, .int .u64 t.n, .int .i64 t.i, .int .u64 t.m], .int .i64 mm, .int .u64 nn, .int .i64 en]) ∧ Below w.heap.size w w') := by
    show ∀ w, _
    intro w
    have := Act_any x.h kind (R.nx + 1) w
    rw [hA] at this
    exact this
  have hwn : Hid (IntKind.wrap .u64 (R.nx + 1) = R.nx + 1) := by show _ = _; simp [IntKind.wrap, IntKind.bits, IntKind.signed]; omega
  have cO := of_any (w.alloc (.cells (acc 0 0 false) 99)) q mb R (h.below (below1 _ _)) c hc
  rw [hx] at cO
  have HB : Hid ((-1000000 < R.kept ∧ R.kept < 1000000) ∧ (0 ≤ R.ver ∧ R.ver < 9223372036854775807) ∧ R.ks.length < 900000 ∧ x.c.size ≤ 1000000) := ⟨hk, hv, hl, hxc⟩
  have HR : Hid (RA w q mb R) := h
  have HEN : Hid (en = 0) := hen
  have HMM : Hid (mm = 0) := hmm
  clear hen hmm
  clear hA hx hn hl hk hv hxc h hc
  obtain ⟨V, HVv⟩ : ∃ V, Hid (env x = V) := ⟨_, rfl⟩
  have HX2 : Hid (V = .agg (enc x)) := by show _ = _; rw [← HVv.out]; rfl
  rw [show env x = .agg (enc x) from rfl] at cO
  clear HVv
  go_enter Tryz.func58, Tryz.ntmps58
  unfold enc gsv at cO
  go_upto_region 2 with (first
    | (go_at_call 92; refine cO.mono ?_; clear cO; rintro e w1 ⟨rfl, hb1⟩))
  have P0 : Pre w q mb R w1.heap.size x (w1.alloc (.cells (enc x) 51)) := by
    have e1 : (w.alloc (.cells (acc 0 0 false) 99)).heap.size = w.heap.size + 1 := by simp
    have s1 := hb1.size
    have k1 : Keep (fun j => j = q ∨ j = mb) w w1 := (Keep.ofBelow (below1 w _)).trans (Keep.ofBelow hb1)
    exact ⟨EnAt.made _ _, ((HR.out.below (below1 w _)).below hb1).below (below1 _ _), box_below (box_below (push_at _ _ rfl) hb1) (below1 _ _), k1.trans (Keep.ofBelow (below1 _ _)), HR.out.lt, HR.out.map.lt, by omega, by simp⟩
  unfold enc gsv at P0
  obtain ⟨b1, Hb1⟩ : ∃ b1, Hid (w1.heap.size = b1) := ⟨_, rfl⟩
  rw [Hb1.out] at P0 ⊢
  generalize w1.alloc _ = w2 at P0 ⊢
  clear hb1
  go_cut [8, 9, 10, 11] from 8 to 28 (fun s8 s9 s10 s11 wx => ∃ g, s8 = .pointer (some ⟨g, 0, none⟩) ∧ s9 = .int .i64 mm ∧ s10 = .int .u64 nn ∧ s11 = .int .i64 en ∧ AInv w q mb (acc 0 0 false) 99 R b1 x g t wx)
  case first =>
    refine wp_region_lx (fun w' => EnAt w' b1 x ∧ RA w' q mb R) [] 19 (by kernel_rfl) (by kernel_rfl) ?_
    have P1 := P0.drew
    generalize w2.drew = W at P1 ⊢
    have HW := And.intro P1.1 P1.2.1
    refine lx_r 0 (.pointer (some ⟨b1, 4, none⟩)) HW ?_; simp only [lxa, lxb, lxc]
    refine lx_r 1 (.agg #[.int .i64 x.h.o, .int .u64 x.h.n, .int .i64 x.h.i, .int .u64 x.h.m]) HW ?_ (hv := fun w' hS => by have z0 := hS.1.c4; have z1 := hS.1.c5; have z2 := hS.1.c6; have z3 := hS.1.c7; first | (go_simp; rfl) | go_simp); simp only [lxa, lxb, lxc]
    refine lx_r 2 (.int .i64 kind) HW ?_; simp only [lxa, lxb, lxc]
    refine lx_r 3 (.pointer (some ⟨q, 0, none⟩)) HW ?_; simp only [lxa, lxb, lxc]
    refine lx_r 4 (.pointer (some ⟨q, 0, none⟩)) HW ?_; simp only [lxa, lxb, lxc]
    refine lx_r 5 (.pointer (some ⟨q, 3, none⟩)) HW ?_; simp only [lxa, lxb, lxc]
    refine lx_r 6 (.int .u64 R.nx) HW ?_ (hv := fun w' hS => by have z0 := hS.2.c3; first | (go_simp; rfl) | go_simp); simp only [lxa, lxb, lxc]
    refine lx_r 7 (.int .u64 (R.nx + 1)) HW ?_ (hv := fun w' hS => by have z0 := hwn.out; first | (go_simp; rfl) | go_simp); simp only [lxa, lxb, lxc]
    refine lx_two 8 14 (by kernel_rfl) ?_ ?_
    · refine stepT_call 97 ?c1 rfl rfl rfl ?d1 ?_
      case d1 => first | (go_simp; rfl) | go_simp
      refine (cA.out W).mono ?_
      rintro e w5 ⟨rfl, hb1⟩
      have P5 := P1.below hb1
      refine ⟨_, rfl, fun _ => ⟨P5.1, P5.2.1⟩, ?_⟩
      simp only [lxa, lxb, lxc]
      have HV : EnAt w5 b1 x ∧ RA w5 q mb R := ⟨P5.1, P5.2.1⟩
      refine lx_r 9 (.tuple #[.agg #[.int .i64 t.o, .int .u64 t.n, .int .i64 t.i, .int .u64 t.m], .int .i64 mm, .int .u64 nn, .int .i64 en]) HV ?_; simp only [lxa, lxb, lxc]
      refine lx_r 10 (.agg #[.int .i64 t.o, .int .u64 t.n, .int .i64 t.i, .int .u64 t.m]) HV ?_; simp only [lxa, lxb, lxc]
      refine lx_r 11 (.int .i64 mm) HV ?_; simp only [lxa, lxb, lxc]
      refine lx_r 12 (.int .u64 nn) HV ?_; simp only [lxa, lxb, lxc]
      refine lx_r 13 (.int .i64 en) HV ?_; simp only [lxa, lxb, lxc]
      refine lx_one 14 (by kernel_rfl) ?_
      have hb2 := below1 w5 (.cells #[.int .i64 0, .int .u64 0, .int .i64 0, .int .u64 0] 49)
      have P6 := P5.below hb2
      have G2 : HfAt (w5.alloc (.cells #[.int .i64 0, .int .u64 0, .int .i64 0, .int .u64 0] 49)) w5.heap.size ⟨0, 0, 0, 0⟩ := push_at _ _ rfl
      have gl : b1 < w5.heap.size := P5.1.lt
      refine stepT_val (w' := w5.alloc (.cells #[.int .i64 0, .int .u64 0, .int .i64 0, .int .u64 0] 49)) (.pointer (some ⟨w5.heap.size, 0, none⟩)) rfl rfl rfl ?d2 (fun _ => ⟨P6.1, P6.2.1⟩) ?_
      case d2 => first | (go_simp; rfl) | go_simp
      simp only [lxa, lxb, lxc]
      have PY : Pre w q mb R b1 x ((w5.alloc (.cells #[.int .i64 0, .int .u64 0, .int .i64 0, .int .u64 0] 49)).setRow w5.heap.size (hfc t)) := P6.row (by have := P6.2.2.2.2.2.2; omega)
      have G9 : HfAt ((w5.alloc (.cells #[.int .i64 0, .int .u64 0, .int .i64 0, .int .u64 0] 49)).setRow w5.heap.size (hfc t)) w5.heap.size t := G2.set t
      refine lx_one 15 (by kernel_rfl) (stepT_store (w' := (w5.alloc (.cells #[.int .i64 0, .int .u64 0, .int .i64 0, .int .u64 0] 49)).setRow w5.heap.size (hfc t)) rfl rfl rfl ?s1 (fun _ => ⟨PY.1, PY.2.1⟩) ?_)
      case s1 => exact exec_store_half (.tmp 8) (.tmp 25) rfl w5.heap.size rfl t rfl _ G2
      generalize (w5.alloc (.cells #[.int .i64 0, .int .u64 0, .int .i64 0, .int .u64 0] 49)).setRow w5.heap.size (hfc t) = WY at PY G9 ⊢
      refine lx_one 16 (by kernel_rfl) (stepT_val (w' := WY) (.int .i64 mm) rfl rfl rfl ?v10 (fun _ => ⟨PY.1, PY.2.1⟩) ?_)
      case v10 => first | (go_simp; rfl) | (go_simp; done)
      simp only [lxa, lxb, lxc]
      refine lx_one 17 (by kernel_rfl) (stepT_val (w' := WY) (.int .u64 nn) rfl rfl rfl ?v11 (fun _ => ⟨PY.1, PY.2.1⟩) ?_)
      case v11 => first | (go_simp; rfl) | (go_simp; done)
      simp only [lxa, lxb, lxc]
      refine lx_one 18 (by kernel_rfl) (stepT_val (w' := WY) (.int .i64 en) rfl rfl rfl ?v12 (fun _ => ⟨PY.1, PY.2.1⟩) ?_)
      case v12 => first | (go_simp; rfl) | (go_simp; done)
      simp only [lxa, lxb, lxc]
      refine lx_nil (by kernel_rfl) ?_
      go_wp2_with fail
      go_meet
      exact ⟨w5.heap.size, rfl, rfl, rfl, rfl, PY.inv G9 (by omega)⟩
    · have hb2 := below1 W (.cells #[.int .i64 0, .int .u64 0, .int .i64 0, .int .u64 0] 49)
      have P6 := P1.below hb2
      have G2 : HfAt (W.alloc (.cells #[.int .i64 0, .int .u64 0, .int .i64 0, .int .u64 0] 49)) W.heap.size ⟨0, 0, 0, 0⟩ := push_at _ _ rfl
      have gl : b1 < W.heap.size := P1.1.lt
      refine stepT_val (w' := W.alloc (.cells #[.int .i64 0, .int .u64 0, .int .i64 0, .int .u64 0] 49)) (.pointer (some ⟨W.heap.size, 0, none⟩)) rfl rfl rfl ?e2 (fun _ => ⟨P6.1, P6.2.1⟩) ?_
      case e2 => first | (go_simp; rfl) | go_simp
      simp only [lxa, lxb, lxc]
      refine lx_one 8 (by kernel_rfl) ?_
      refine stepT_call 97 ?c2 rfl rfl rfl ?e1 ?_
      case e1 => first | (go_simp; rfl) | go_simp
      refine (cA.out _).mono ?_
      rintro e w6 ⟨rfl, hb1⟩
      have P7 := P6.below hb1
      have G4 : HfAt w6 W.heap.size ⟨0, 0, 0, 0⟩ := box_below G2 hb1
      refine ⟨_, rfl, fun _ => ⟨P7.1, P7.2.1⟩, ?_⟩
      simp only [lxa, lxb, lxc]
      have HV : EnAt w6 b1 x ∧ RA w6 q mb R := ⟨P7.1, P7.2.1⟩
      refine lx_r 9 (.tuple #[.agg #[.int .i64 t.o, .int .u64 t.n, .int .i64 t.i, .int .u64 t.m], .int .i64 mm, .int .u64 nn, .int .i64 en]) HV ?_; simp only [lxa, lxb, lxc]
      refine lx_r 10 (.agg #[.int .i64 t.o, .int .u64 t.n, .int .i64 t.i, .int .u64 t.m]) HV ?_; simp only [lxa, lxb, lxc]
      refine lx_r 11 (.int .i64 mm) HV ?_; simp only [lxa, lxb, lxc]
      refine lx_r 12 (.int .u64 nn) HV ?_; simp only [lxa, lxb, lxc]
      refine lx_r 13 (.int .i64 en) HV ?_; simp only [lxa, lxb, lxc]
      have PY : Pre w q mb R b1 x (w6.setRow W.heap.size (hfc t)) := P7.row (by have := P7.2.2.2.2.2.2; omega)
      have G9 : HfAt (w6.setRow W.heap.size (hfc t)) W.heap.size t := G4.set t
      refine lx_one 15 (by kernel_rfl) (stepT_store (w' := w6.setRow W.heap.size (hfc t)) rfl rfl rfl ?s2 (fun _ => ⟨PY.1, PY.2.1⟩) ?_)
      case s2 => exact exec_store_half (.tmp 8) (.tmp 25) rfl W.heap.size rfl t rfl _ G4
      generalize w6.setRow W.heap.size (hfc t) = WY at PY G9 ⊢
      refine lx_one 16 (by kernel_rfl) (stepT_val (w' := WY) (.int .i64 mm) rfl rfl rfl ?v20 (fun _ => ⟨PY.1, PY.2.1⟩) ?_)
      case v20 => first | (go_simp; rfl) | (go_simp; done)
      simp only [lxa, lxb, lxc]
      refine lx_one 17 (by kernel_rfl) (stepT_val (w' := WY) (.int .u64 nn) rfl rfl rfl ?v21 (fun _ => ⟨PY.1, PY.2.1⟩) ?_)
      case v21 => first | (go_simp; rfl) | (go_simp; done)
      simp only [lxa, lxb, lxc]
      refine lx_one 18 (by kernel_rfl) (stepT_val (w' := WY) (.int .i64 en) rfl rfl rfl ?v22 (fun _ => ⟨PY.1, PY.2.1⟩) ?_)
      case v22 => first | (go_simp; rfl) | (go_simp; done)
      simp only [lxa, lxb, lxc]
      refine lx_nil (by kernel_rfl) ?_
      go_wp2_with fail
      go_meet
      exact ⟨W.heap.size, rfl, rfl, rfl, rfl, PY.inv G9 (by omega)⟩
  case rest =>
    obtain ⟨g, rfl, rfl, rfl, rfl, I⟩ := hcut
    have HI : Hid (AInv w q mb (acc 0 0 false) 99 R b1 x g t wc) := I
    clear I P0
    have hen := HEN.out
    have hmm := HMM.out
    clear cA
    subst hen
    subst hmm
    have hd1 := fun w => demR_ok 0 w
    go_wp2_with (first
      | (go_at_call 69; refine (hd1 _).mono ?_; rintro e w3 ⟨rfl, hw3⟩; replace hw3 := hw3.symm; subst hw3)
      | (refine wpList_store_row rfl 99 (.tmp 6) (.tmp 35) rfl w.heap.size (acc 0 0 false) rfl rfl 99 _ HI.out.ac (by rw [infoActed]; rfl) (by rfl) (acc_one _ _ _) ?_))
    obtain ⟨a1, a2, a3⟩ := HI.out.answer (acc 0 0 false)
    have hld := run_loadVar_row _ w.heap.size 99 99 _ (0, 0) _ a2 Tryz.underlying99 rfl (by rw [infoActed]; rfl)
    first | exact bodyPost_ret (res_row rfl _ _ _ _ rfl hld) rfl ⟨gv_ok rfl, a1, a3⟩ | exact bodyPost_end (res_row rfl _ _ _ _ rfl hld) rfl ⟨gv_ok rfl, a1, a3⟩
set_option maxHeartbeats 3200000 in
theorem act_3 (w : World) (q mb : Nat) (R : Ro) (h : RA w q mb R) (c : ByteArray) (hc : c.size ≤ 1000000) (kind : Int) (x : En) (hx : ofE R c = x) (hxc : x.c.size ≤ 1000000) (t : Hf) (mm nn : Int) (en : Nat) (hA : actA x.h kind (R.nx + 1) = ((t, mm, nn), en))
    (hn : 0 ≤ R.nx ∧ R.nx < 9223372036854775807) (hl : R.ks.length < 900000) (hk : -1000000 < R.kept ∧ R.kept < 1000000) (hv : 0 ≤ R.ver ∧ R.ver < 9223372036854775807) (hen : en = 0) (hmm : mm ≠ 0) (hkd : kind = 11) (hrm : roomB R x = true) :
    Calls Tryz.prog 58 #[.pointer (some ⟨q, 0, none⟩), .string c, .int .i64 kind] w fun e w' => GaveV 0 (.agg (acc mm nn (chg { x with k := true } t))) e ∧ RA w' q mb (turnR { R with nx := R.nx + 1 } { x with k := true } t) ∧ Keep (fun j => j = q ∨ j = mb) w w' := by
  have cA : Hid (∀ w, Calls Tryz.prog 97 #[.agg #[.int .i64 x.h.o, .int .u64 x.h.n, .int .i64 x.h.i, .int .u64 x.h.m], .int .i64 kind, .int .u64 (R.nx + 1)] w fun e w' => e = .returned (.tuple #[.agg #[.int .i64 t.o, .int .u64 t.n, .int .i64 t.i, .int .u64 t.m], .int .i64 mm, .int .u64 nn, .int .i64 en]) ∧ Below w.heap.size w w') := by
    show ∀ w, _
    intro w
    have := Act_any x.h kind (R.nx + 1) w
    rw [hA] at this
    exact this
  have hwn : Hid (IntKind.wrap .u64 (R.nx + 1) = R.nx + 1) := by show _ = _; simp [IntKind.wrap, IntKind.bits, IntKind.signed]; omega
  have cO := of_any (w.alloc (.cells (acc 0 0 false) 99)) q mb R (h.below (below1 _ _)) c hc
  rw [hx] at cO
  have HB : Hid ((-1000000 < R.kept ∧ R.kept < 1000000) ∧ (0 ≤ R.ver ∧ R.ver < 9223372036854775807) ∧ R.ks.length < 900000 ∧ x.c.size ≤ 1000000) := ⟨hk, hv, hl, hxc⟩
  have HR : Hid (RA w q mb R) := h
  have HEN : Hid (en = 0) := hen
  have HKD : Hid (kind = 11) := hkd
  clear hen hkd
  have z1 : ((mm : Int) == 0) = false := by rw [beq_eq_false_iff_ne]; exact hmm
  have HM : Hid (mm ≠ 0) := hmm
  clear hmm
  have HRm : Hid (roomB R x = true) := hrm
  clear hrm
  clear hA hx hn hl hk hv hxc h hc
  obtain ⟨V, HVv⟩ : ∃ V, Hid (env x = V) := ⟨_, rfl⟩
  have HX2 : Hid (V = .agg (enc x)) := by show _ = _; rw [← HVv.out]; rfl
  rw [show env x = .agg (enc x) from rfl] at cO
  clear HVv
  go_enter Tryz.func58, Tryz.ntmps58
  unfold enc gsv at cO
  go_upto_region 2 with (first
    | (go_at_call 92; refine cO.mono ?_; clear cO; rintro e w1 ⟨rfl, hb1⟩))
  have P0 : Pre w q mb R w1.heap.size x (w1.alloc (.cells (enc x) 51)) := by
    have e1 : (w.alloc (.cells (acc 0 0 false) 99)).heap.size = w.heap.size + 1 := by simp
    have s1 := hb1.size
    have k1 : Keep (fun j => j = q ∨ j = mb) w w1 := (Keep.ofBelow (below1 w _)).trans (Keep.ofBelow hb1)
    exact ⟨EnAt.made _ _, ((HR.out.below (below1 w _)).below hb1).below (below1 _ _), box_below (box_below (push_at _ _ rfl) hb1) (below1 _ _), k1.trans (Keep.ofBelow (below1 _ _)), HR.out.lt, HR.out.map.lt, by omega, by simp⟩
  unfold enc gsv at P0
  obtain ⟨b1, Hb1⟩ : ∃ b1, Hid (w1.heap.size = b1) := ⟨_, rfl⟩
  rw [Hb1.out] at P0 ⊢
  generalize w1.alloc _ = w2 at P0 ⊢
  clear hb1
  go_cut [8, 9, 10, 11] from 8 to 28 (fun s8 s9 s10 s11 wx => ∃ g, s8 = .pointer (some ⟨g, 0, none⟩) ∧ s9 = .int .i64 mm ∧ s10 = .int .u64 nn ∧ s11 = .int .i64 en ∧ AInv w q mb (acc 0 0 false) 99 R b1 x g t wx)
  case first =>
    refine wp_region_lx (fun w' => EnAt w' b1 x ∧ RA w' q mb R) [] 19 (by kernel_rfl) (by kernel_rfl) ?_
    have P1 := P0.drew
    generalize w2.drew = W at P1 ⊢
    have HW := And.intro P1.1 P1.2.1
    refine lx_r 0 (.pointer (some ⟨b1, 4, none⟩)) HW ?_; simp only [lxa, lxb, lxc]
    refine lx_r 1 (.agg #[.int .i64 x.h.o, .int .u64 x.h.n, .int .i64 x.h.i, .int .u64 x.h.m]) HW ?_ (hv := fun w' hS => by have z0 := hS.1.c4; have z1 := hS.1.c5; have z2 := hS.1.c6; have z3 := hS.1.c7; first | (go_simp; rfl) | go_simp); simp only [lxa, lxb, lxc]
    refine lx_r 2 (.int .i64 kind) HW ?_; simp only [lxa, lxb, lxc]
    refine lx_r 3 (.pointer (some ⟨q, 0, none⟩)) HW ?_; simp only [lxa, lxb, lxc]
    refine lx_r 4 (.pointer (some ⟨q, 0, none⟩)) HW ?_; simp only [lxa, lxb, lxc]
    refine lx_r 5 (.pointer (some ⟨q, 3, none⟩)) HW ?_; simp only [lxa, lxb, lxc]
    refine lx_r 6 (.int .u64 R.nx) HW ?_ (hv := fun w' hS => by have z0 := hS.2.c3; first | (go_simp; rfl) | go_simp); simp only [lxa, lxb, lxc]
    refine lx_r 7 (.int .u64 (R.nx + 1)) HW ?_ (hv := fun w' hS => by have z0 := hwn.out; first | (go_simp; rfl) | go_simp); simp only [lxa, lxb, lxc]
    refine lx_two 8 14 (by kernel_rfl) ?_ ?_
    · refine stepT_call 97 ?c1 rfl rfl rfl ?d1 ?_
      case d1 => first | (go_simp; rfl) | go_simp
      refine (cA.out W).mono ?_
      rintro e w5 ⟨rfl, hb1⟩
      have P5 := P1.below hb1
      refine ⟨_, rfl, fun _ => ⟨P5.1, P5.2.1⟩, ?_⟩
      simp only [lxa, lxb, lxc]
      have HV : EnAt w5 b1 x ∧ RA w5 q mb R := ⟨P5.1, P5.2.1⟩
      refine lx_r 9 (.tuple #[.agg #[.int .i64 t.o, .int .u64 t.n, .int .i64 t.i, .int .u64 t.m], .int .i64 mm, .int .u64 nn, .int .i64 en]) HV ?_; simp only [lxa, lxb, lxc]
      refine lx_r 10 (.agg #[.int .i64 t.o, .int .u64 t.n, .int .i64 t.i, .int .u64 t.m]) HV ?_; simp only [lxa, lxb, lxc]
      refine lx_r 11 (.int .i64 mm) HV ?_; simp only [lxa, lxb, lxc]
      refine lx_r 12 (.int .u64 nn) HV ?_; simp only [lxa, lxb, lxc]
      refine lx_r 13 (.int .i64 en) HV ?_; simp only [lxa, lxb, lxc]
      refine lx_one 14 (by kernel_rfl) ?_
      have hb2 := below1 w5 (.cells #[.int .i64 0, .int .u64 0, .int .i64 0, .int .u64 0] 49)
      have P6 := P5.below hb2
      have G2 : HfAt (w5.alloc (.cells #[.int .i64 0, .int .u64 0, .int .i64 0, .int .u64 0] 49)) w5.heap.size ⟨0, 0, 0, 0⟩ := push_at _ _ rfl
      have gl : b1 < w5.heap.size := P5.1.lt
      refine stepT_val (w' := w5.alloc (.cells #[.int .i64 0, .int .u64 0, .int .i64 0, .int .u64 0] 49)) (.pointer (some ⟨w5.heap.size, 0, none⟩)) rfl rfl rfl ?d2 (fun _ => ⟨P6.1, P6.2.1⟩) ?_
      case d2 => first | (go_simp; rfl) | go_simp
      simp only [lxa, lxb, lxc]
      have PY : Pre w q mb R b1 x ((w5.alloc (.cells #[.int .i64 0, .int .u64 0, .int .i64 0, .int .u64 0] 49)).setRow w5.heap.size (hfc t)) := P6.row (by have := P6.2.2.2.2.2.2; omega)
      have G9 : HfAt ((w5.alloc (.cells #[.int .i64 0, .int .u64 0, .int .i64 0, .int .u64 0] 49)).setRow w5.heap.size (hfc t)) w5.heap.size t := G2.set t
      refine lx_one 15 (by kernel_rfl) (stepT_store (w' := (w5.alloc (.cells #[.int .i64 0, .int .u64 0, .int .i64 0, .int .u64 0] 49)).setRow w5.heap.size (hfc t)) rfl rfl rfl ?s1 (fun _ => ⟨PY.1, PY.2.1⟩) ?_)
      case s1 => exact exec_store_half (.tmp 8) (.tmp 25) rfl w5.heap.size rfl t rfl _ G2
      generalize (w5.alloc (.cells #[.int .i64 0, .int .u64 0, .int .i64 0, .int .u64 0] 49)).setRow w5.heap.size (hfc t) = WY at PY G9 ⊢
      refine lx_one 16 (by kernel_rfl) (stepT_val (w' := WY) (.int .i64 mm) rfl rfl rfl ?v10 (fun _ => ⟨PY.1, PY.2.1⟩) ?_)
      case v10 => first | (go_simp; rfl) | (go_simp; done)
      simp only [lxa, lxb, lxc]
      refine lx_one 17 (by kernel_rfl) (stepT_val (w' := WY) (.int .u64 nn) rfl rfl rfl ?v11 (fun _ => ⟨PY.1, PY.2.1⟩) ?_)
      case v11 => first | (go_simp; rfl) | (go_simp; done)
      simp only [lxa, lxb, lxc]
      refine lx_one 18 (by kernel_rfl) (stepT_val (w' := WY) (.int .i64 en) rfl rfl rfl ?v12 (fun _ => ⟨PY.1, PY.2.1⟩) ?_)
      case v12 => first | (go_simp; rfl) | (go_simp; done)
      simp only [lxa, lxb, lxc]
      refine lx_nil (by kernel_rfl) ?_
      go_wp2_with fail
      go_meet
      exact ⟨w5.heap.size, rfl, rfl, rfl, rfl, PY.inv G9 (by omega)⟩
    · have hb2 := below1 W (.cells #[.int .i64 0, .int .u64 0, .int .i64 0, .int .u64 0] 49)
      have P6 := P1.below hb2
      have G2 : HfAt (W.alloc (.cells #[.int .i64 0, .int .u64 0, .int .i64 0, .int .u64 0] 49)) W.heap.size ⟨0, 0, 0, 0⟩ := push_at _ _ rfl
      have gl : b1 < W.heap.size := P1.1.lt
      refine stepT_val (w' := W.alloc (.cells #[.int .i64 0, .int .u64 0, .int .i64 0, .int .u64 0] 49)) (.pointer (some ⟨W.heap.size, 0, none⟩)) rfl rfl rfl ?e2 (fun _ => ⟨P6.1, P6.2.1⟩) ?_
      case e2 => first | (go_simp; rfl) | go_simp
      simp only [lxa, lxb, lxc]
      refine lx_one 8 (by kernel_rfl) ?_
      refine stepT_call 97 ?c2 rfl rfl rfl ?e1 ?_
      case e1 => first | (go_simp; rfl) | go_simp
      refine (cA.out _).mono ?_
      rintro e w6 ⟨rfl, hb1⟩
      have P7 := P6.below hb1
      have G4 : HfAt w6 W.heap.size ⟨0, 0, 0, 0⟩ := box_below G2 hb1
      refine ⟨_, rfl, fun _ => ⟨P7.1, P7.2.1⟩, ?_⟩
      simp only [lxa, lxb, lxc]
      have HV : EnAt w6 b1 x ∧ RA w6 q mb R := ⟨P7.1, P7.2.1⟩
      refine lx_r 9 (.tuple #[.agg #[.int .i64 t.o, .int .u64 t.n, .int .i64 t.i, .int .u64 t.m], .int .i64 mm, .int .u64 nn, .int .i64 en]) HV ?_; simp only [lxa, lxb, lxc]
      refine lx_r 10 (.agg #[.int .i64 t.o, .int .u64 t.n, .int .i64 t.i, .int .u64 t.m]) HV ?_; simp only [lxa, lxb, lxc]
      refine lx_r 11 (.int .i64 mm) HV ?_; simp only [lxa, lxb, lxc]
      refine lx_r 12 (.int .u64 nn) HV ?_; simp only [lxa, lxb, lxc]
      refine lx_r 13 (.int .i64 en) HV ?_; simp only [lxa, lxb, lxc]
      have PY : Pre w q mb R b1 x (w6.setRow W.heap.size (hfc t)) := P7.row (by have := P7.2.2.2.2.2.2; omega)
      have G9 : HfAt (w6.setRow W.heap.size (hfc t)) W.heap.size t := G4.set t
      refine lx_one 15 (by kernel_rfl) (stepT_store (w' := w6.setRow W.heap.size (hfc t)) rfl rfl rfl ?s2 (fun _ => ⟨PY.1, PY.2.1⟩) ?_)
      case s2 => exact exec_store_half (.tmp 8) (.tmp 25) rfl W.heap.size rfl t rfl _ G4
      generalize w6.setRow W.heap.size (hfc t) = WY at PY G9 ⊢
      refine lx_one 16 (by kernel_rfl) (stepT_val (w' := WY) (.int .i64 mm) rfl rfl rfl ?v20 (fun _ => ⟨PY.1, PY.2.1⟩) ?_)
      case v20 => first | (go_simp; rfl) | (go_simp; done)
      simp only [lxa, lxb, lxc]
      refine lx_one 17 (by kernel_rfl) (stepT_val (w' := WY) (.int .u64 nn) rfl rfl rfl ?v21 (fun _ => ⟨PY.1, PY.2.1⟩) ?_)
      case v21 => first | (go_simp; rfl) | (go_simp; done)
      simp only [lxa, lxb, lxc]
      refine lx_one 18 (by kernel_rfl) (stepT_val (w' := WY) (.int .i64 en) rfl rfl rfl ?v22 (fun _ => ⟨PY.1, PY.2.1⟩) ?_)
      case v22 => first | (go_simp; rfl) | (go_simp; done)
      simp only [lxa, lxb, lxc]
      refine lx_nil (by kernel_rfl) ?_
      go_wp2_with fail
      go_meet
      exact ⟨W.heap.size, rfl, rfl, rfl, rfl, PY.inv G9 (by omega)⟩
  case rest =>
    obtain ⟨g, rfl, rfl, rfl, rfl, I⟩ := hcut
    have HI : Hid (AInv w q mb (acc 0 0 false) 99 R b1 x g t wc) := I
    clear I P0
    have hen := HEN.out
    have hkd := HKD.out
    clear cA
    subst hen
    subst hkd
    have hd1 := fun w => demR_ok 0 w
    have hI : Calls Tryz.prog 91 #[.pointer (some ⟨q, 0, none⟩), env x] wc fun e w' => e = .returned (env { x with k := true }) ∧ Below wc.heap.size wc w' := by
      refine (asItem_any wc q mb R HI.out.ra x).mono ?_
      rintro e w' ⟨h1, h2⟩
      rw [HRm.out] at h1
      exact ⟨h1.elim (fun h => h.2) (fun h => absurd h.1 (by decide)), h2⟩
    have tk1 : True := trivial
    go_upto_region 10 with (first
      | (go_at_call 69; refine (hd1 _).mono ?_; rintro e w3 ⟨rfl, hw3⟩; replace hw3 := hw3.symm; subst hw3)
      | (clear tk1; refine wp_load_en rfl (.tmp 7) rfl b1 rfl x HI.out.en ?_)
      | (go_at_call 91; refine hI.mono ?_; clear hI; rintro e w3 ⟨rfl, hb3⟩; have HI1 : Hid (AInv w q mb (acc 0 0 false) 99 R b1 x g t w3) := HI.out.below hb3)
      | (refine wp_store_en rfl (.tmp 7) (.tmp 44) rfl b1 rfl { x with k := true } rfl _ HI1.out.en ?_; obtain ⟨Y, HY⟩ : ∃ Y, Hid (w3.setRow b1 (enc { x with k := true }) = Y) := ⟨_, rfl⟩; have HI2 : Hid (AInv w q mb (acc 0 0 false) 99 R b1 { x with k := true } g t Y) := (by rw [← HY.out]; exact HI1.out.put _); rw [HY.out]; have c3 := HI2.out.ra.c3; have f3 := HI2.out.ra.fz 3; have wn := hwn.out))
    obtain ⟨Y2, HY2⟩ : ∃ Y2, Hid (Y.setCell ⟨q, 3, none⟩ (.int .u64 (R.nx + 1)) = Y2) := ⟨_, rfl⟩
    have HI3 : Hid (AInv w q mb (acc 0 0 false) 99 { R with nx := R.nx + 1 } b1 { x with k := true } g t Y2) := (by rw [← HY2.out]; exact HI2.out.nxt _)
    rw [HY2.out]
    have hT := turn_any Y2 q mb { R with nx := R.nx + 1 } HI3.out.ra { x with k := true } t HB.out.2.2.2 HB.out.2.2.1 HB.out.1 HB.out.2.1
    clear c3 f3 wn
    go_wp2_with (first
      | (refine wp_load_en rfl (.tmp 7) rfl b1 rfl { x with k := true } HI3.out.en ?_)
      | (refine wp_load_half rfl (.tmp 8) rfl g rfl t HI3.out.hf ?_)
      | (go_at_call 98; refine hT.mono ?_; clear hT; rintro e w6 ⟨rfl, hr6, hk6⟩; have HI4 : Hid (AInv w q mb (acc 0 0 false) 99 (turnR { R with nx := R.nx + 1 } { x with k := true } t) b1 { x with k := true } g t w6) := HI3.out.turned hr6 hk6)
      | (refine wpList_store_row rfl 99 (.tmp 6) (.tmp 60) rfl w.heap.size (acc mm nn (chg { x with k := true } t)) rfl rfl 99 _ HI4.out.ac (by rw [infoActed]; rfl) (by rfl) (acc_one _ _ _) ?_))
    obtain ⟨a1, a2, a3⟩ := HI4.out.answer (acc mm nn (chg { x with k := true } t))
    have hld := run_loadVar_row _ w.heap.size 99 99 _ (0, 0) _ a2 Tryz.underlying99 rfl (by rw [infoActed]; rfl)
    first | exact bodyPost_ret (res_row rfl _ _ _ _ rfl hld) rfl ⟨gv_ok rfl, a1, a3⟩ | exact bodyPost_end (res_row rfl _ _ _ _ rfl hld) rfl ⟨gv_ok rfl, a1, a3⟩
set_option maxHeartbeats 3200000 in
theorem act_4 (w : World) (q mb : Nat) (R : Ro) (h : RA w q mb R) (c : ByteArray) (hc : c.size ≤ 1000000) (kind : Int) (x : En) (hx : ofE R c = x) (hxc : x.c.size ≤ 1000000) (t : Hf) (mm nn : Int) (en : Nat) (hA : actA x.h kind (R.nx + 1) = ((t, mm, nn), en))
    (hn : 0 ≤ R.nx ∧ R.nx < 9223372036854775807) (hl : R.ks.length < 900000) (hk : -1000000 < R.kept ∧ R.kept < 1000000) (hv : 0 ≤ R.ver ∧ R.ver < 9223372036854775807) (hen : en = 0) (hmm : mm ≠ 0) (hkd : kind = 11) (hrm : roomB R x = false) :
    Calls Tryz.prog 58 #[.pointer (some ⟨q, 0, none⟩), .string c, .int .i64 kind] w fun e w' => e = .panicked (gaveR 8) ∧ RA w' q mb (R) ∧ Keep (fun j => j = q ∨ j = mb) w w' := by
  have cA : Hid (∀ w, Calls Tryz.prog 97 #[.agg #[.int .i64 x.h.o, .int .u64 x.h.n, .int .i64 x.h.i, .int .u64 x.h.m], .int .i64 kind, .int .u64 (R.nx + 1)] w fun e w' => e = .returned (.tuple #[.agg #[.int .i64 t.o, .int .u64 t.n, .int .i64 t.i, .int .u64 t.m], .int .i64 mm, .int .u64 nn, .int .i64 en]) ∧ Below w.heap.size w w') := by
    show ∀ w, _
    intro w
    have := Act_any x.h kind (R.nx + 1) w
    rw [hA] at this
    exact this
  have hwn : Hid (IntKind.wrap .u64 (R.nx + 1) = R.nx + 1) := by show _ = _; simp [IntKind.wrap, IntKind.bits, IntKind.signed]; omega
  have cO := of_any (w.alloc (.cells (acc 0 0 false) 99)) q mb R (h.below (below1 _ _)) c hc
  rw [hx] at cO
  have HB : Hid ((-1000000 < R.kept ∧ R.kept < 1000000) ∧ (0 ≤ R.ver ∧ R.ver < 9223372036854775807) ∧ R.ks.length < 900000 ∧ x.c.size ≤ 1000000) := ⟨hk, hv, hl, hxc⟩
  have HR : Hid (RA w q mb R) := h
  have HEN : Hid (en = 0) := hen
  have HKD : Hid (kind = 11) := hkd
  clear hen hkd
  have z1 : ((mm : Int) == 0) = false := by rw [beq_eq_false_iff_ne]; exact hmm
  have HM : Hid (mm ≠ 0) := hmm
  clear hmm
  have HRm : Hid (roomB R x = false) := hrm
  clear hrm
  clear hA hx hn hl hk hv hxc h hc
  obtain ⟨V, HVv⟩ : ∃ V, Hid (env x = V) := ⟨_, rfl⟩
  have HX2 : Hid (V = .agg (enc x)) := by show _ = _; rw [← HVv.out]; rfl
  rw [show env x = .agg (enc x) from rfl] at cO
  clear HVv
  go_enter Tryz.func58, Tryz.ntmps58
  unfold enc gsv at cO
  go_upto_region 2 with (first
    | (go_at_call 92; refine cO.mono ?_; clear cO; rintro e w1 ⟨rfl, hb1⟩))
  have P0 : Pre w q mb R w1.heap.size x (w1.alloc (.cells (enc x) 51)) := by
    have e1 : (w.alloc (.cells (acc 0 0 false) 99)).heap.size = w.heap.size + 1 := by simp
    have s1 := hb1.size
    have k1 : Keep (fun j => j = q ∨ j = mb) w w1 := (Keep.ofBelow (below1 w _)).trans (Keep.ofBelow hb1)
    exact ⟨EnAt.made _ _, ((HR.out.below (below1 w _)).below hb1).below (below1 _ _), box_below (box_below (push_at _ _ rfl) hb1) (below1 _ _), k1.trans (Keep.ofBelow (below1 _ _)), HR.out.lt, HR.out.map.lt, by omega, by simp⟩
  unfold enc gsv at P0
  obtain ⟨b1, Hb1⟩ : ∃ b1, Hid (w1.heap.size = b1) := ⟨_, rfl⟩
  rw [Hb1.out] at P0 ⊢
  generalize w1.alloc _ = w2 at P0 ⊢
  clear hb1
  go_cut [8, 9, 10, 11] from 8 to 28 (fun s8 s9 s10 s11 wx => ∃ g, s8 = .pointer (some ⟨g, 0, none⟩) ∧ s9 = .int .i64 mm ∧ s10 = .int .u64 nn ∧ s11 = .int .i64 en ∧ AInv w q mb (acc 0 0 false) 99 R b1 x g t wx)
  case first =>
    refine wp_region_lx (fun w' => EnAt w' b1 x ∧ RA w' q mb R) [] 19 (by kernel_rfl) (by kernel_rfl) ?_
    have P1 := P0.drew
    generalize w2.drew = W at P1 ⊢
    have HW := And.intro P1.1 P1.2.1
    refine lx_r 0 (.pointer (some ⟨b1, 4, none⟩)) HW ?_; simp only [lxa, lxb, lxc]
    refine lx_r 1 (.agg #[.int .i64 x.h.o, .int .u64 x.h.n, .int .i64 x.h.i, .int .u64 x.h.m]) HW ?_ (hv := fun w' hS => by have z0 := hS.1.c4; have z1 := hS.1.c5; have z2 := hS.1.c6; have z3 := hS.1.c7; first | (go_simp; rfl) | go_simp); simp only [lxa, lxb, lxc]
    refine lx_r 2 (.int .i64 kind) HW ?_; simp only [lxa, lxb, lxc]
    refine lx_r 3 (.pointer (some ⟨q, 0, none⟩)) HW ?_; simp only [lxa, lxb, lxc]
    refine lx_r 4 (.pointer (some ⟨q, 0, none⟩)) HW ?_; simp only [lxa, lxb, lxc]
    refine lx_r 5 (.pointer (some ⟨q, 3, none⟩)) HW ?_; simp only [lxa, lxb, lxc]
    refine lx_r 6 (.int .u64 R.nx) HW ?_ (hv := fun w' hS => by have z0 := hS.2.c3; first | (go_simp; rfl) | go_simp); simp only [lxa, lxb, lxc]
    refine lx_r 7 (.int .u64 (R.nx + 1)) HW ?_ (hv := fun w' hS => by have z0 := hwn.out; first | (go_simp; rfl) | go_simp); simp only [lxa, lxb, lxc]
    refine lx_two 8 14 (by kernel_rfl) ?_ ?_
    · refine stepT_call 97 ?c1 rfl rfl rfl ?d1 ?_
      case d1 => first | (go_simp; rfl) | go_simp
      refine (cA.out W).mono ?_
      rintro e w5 ⟨rfl, hb1⟩
      have P5 := P1.below hb1
      refine ⟨_, rfl, fun _ => ⟨P5.1, P5.2.1⟩, ?_⟩
      simp only [lxa, lxb, lxc]
      have HV : EnAt w5 b1 x ∧ RA w5 q mb R := ⟨P5.1, P5.2.1⟩
      refine lx_r 9 (.tuple #[.agg #[.int .i64 t.o, .int .u64 t.n, .int .i64 t.i, .int .u64 t.m], .int .i64 mm, .int .u64 nn, .int .i64 en]) HV ?_; simp only [lxa, lxb, lxc]
      refine lx_r 10 (.agg #[.int .i64 t.o, .int .u64 t.n, .int .i64 t.i, .int .u64 t.m]) HV ?_; simp only [lxa, lxb, lxc]
      refine lx_r 11 (.int .i64 mm) HV ?_; simp only [lxa, lxb, lxc]
      refine lx_r 12 (.int .u64 nn) HV ?_; simp only [lxa, lxb, lxc]
      refine lx_r 13 (.int .i64 en) HV ?_; simp only [lxa, lxb, lxc]
      refine lx_one 14 (by kernel_rfl) ?_
      have hb2 := below1 w5 (.cells #[.int .i64 0, .int .u64 0, .int .i64 0, .int .u64 0] 49)
      have P6 := P5.below hb2
      have G2 : HfAt (w5.alloc (.cells #[.int .i64 0, .int .u64 0, .int .i64 0, .int .u64 0] 49)) w5.heap.size ⟨0, 0, 0, 0⟩ := push_at _ _ rfl
      have gl : b1 < w5.heap.size := P5.1.lt
      refine stepT_val (w' := w5.alloc (.cells #[.int .i64 0, .int .u64 0, .int .i64 0, .int .u64 0] 49)) (.pointer (some ⟨w5.heap.size, 0, none⟩)) rfl rfl rfl ?d2 (fun _ => ⟨P6.1, P6.2.1⟩) ?_
      case d2 => first | (go_simp; rfl) | go_simp
      simp only [lxa, lxb, lxc]
      have PY : Pre w q mb R b1 x ((w5.alloc (.cells #[.int .i64 0, .int .u64 0, .int .i64 0, .int .u64 0] 49)).setRow w5.heap.size (hfc t)) := P6.row (by have := P6.2.2.2.2.2.2; omega)
      have G9 : HfAt ((w5.alloc (.cells #[.int .i64 0, .int .u64 0, .int .i64 0, .int .u64 0] 49)).setRow w5.heap.size (hfc t)) w5.heap.size t := G2.set t
      refine lx_one 15 (by kernel_rfl) (stepT_store (w' := (w5.alloc (.cells #[.int .i64 0, .int .u64 0, .int .i64 0, .int .u64 0] 49)).setRow w5.heap.size (hfc t)) rfl rfl rfl ?s1 (fun _ => ⟨PY.1, PY.2.1⟩) ?_)
      case s1 => exact exec_store_half (.tmp 8) (.tmp 25) rfl w5.heap.size rfl t rfl _ G2
      generalize (w5.alloc (.cells #[.int .i64 0, .int .u64 0, .int .i64 0, .int .u64 0] 49)).setRow w5.heap.size (hfc t) = WY at PY G9 ⊢
      refine lx_one 16 (by kernel_rfl) (stepT_val (w' := WY) (.int .i64 mm) rfl rfl rfl ?v10 (fun _ => ⟨PY.1, PY.2.1⟩) ?_)
      case v10 => first | (go_simp; rfl) | (go_simp; done)
      simp only [lxa, lxb, lxc]
      refine lx_one 17 (by kernel_rfl) (stepT_val (w' := WY) (.int .u64 nn) rfl rfl rfl ?v11 (fun _ => ⟨PY.1, PY.2.1⟩) ?_)
      case v11 => first | (go_simp; rfl) | (go_simp; done)
      simp only [lxa, lxb, lxc]
      refine lx_one 18 (by kernel_rfl) (stepT_val (w' := WY) (.int .i64 en) rfl rfl rfl ?v12 (fun _ => ⟨PY.1, PY.2.1⟩) ?_)
      case v12 => first | (go_simp; rfl) | (go_simp; done)
      simp only [lxa, lxb, lxc]
      refine lx_nil (by kernel_rfl) ?_
      go_wp2_with fail
      go_meet
      exact ⟨w5.heap.size, rfl, rfl, rfl, rfl, PY.inv G9 (by omega)⟩
    · have hb2 := below1 W (.cells #[.int .i64 0, .int .u64 0, .int .i64 0, .int .u64 0] 49)
      have P6 := P1.below hb2
      have G2 : HfAt (W.alloc (.cells #[.int .i64 0, .int .u64 0, .int .i64 0, .int .u64 0] 49)) W.heap.size ⟨0, 0, 0, 0⟩ := push_at _ _ rfl
      have gl : b1 < W.heap.size := P1.1.lt
      refine stepT_val (w' := W.alloc (.cells #[.int .i64 0, .int .u64 0, .int .i64 0, .int .u64 0] 49)) (.pointer (some ⟨W.heap.size, 0, none⟩)) rfl rfl rfl ?e2 (fun _ => ⟨P6.1, P6.2.1⟩) ?_
      case e2 => first | (go_simp; rfl) | go_simp
      simp only [lxa, lxb, lxc]
      refine lx_one 8 (by kernel_rfl) ?_
      refine stepT_call 97 ?c2 rfl rfl rfl ?e1 ?_
      case e1 => first | (go_simp; rfl) | go_simp
      refine (cA.out _).mono ?_
      rintro e w6 ⟨rfl, hb1⟩
      have P7 := P6.below hb1
      have G4 : HfAt w6 W.heap.size ⟨0, 0, 0, 0⟩ := box_below G2 hb1
      refine ⟨_, rfl, fun _ => ⟨P7.1, P7.2.1⟩, ?_⟩
      simp only [lxa, lxb, lxc]
      have HV : EnAt w6 b1 x ∧ RA w6 q mb R := ⟨P7.1, P7.2.1⟩
      refine lx_r 9 (.tuple #[.agg #[.int .i64 t.o, .int .u64 t.n, .int .i64 t.i, .int .u64 t.m], .int .i64 mm, .int .u64 nn, .int .i64 en]) HV ?_; simp only [lxa, lxb, lxc]
      refine lx_r 10 (.agg #[.int .i64 t.o, .int .u64 t.n, .int .i64 t.i, .int .u64 t.m]) HV ?_; simp only [lxa, lxb, lxc]
      refine lx_r 11 (.int .i64 mm) HV ?_; simp only [lxa, lxb, lxc]
      refine lx_r 12 (.int .u64 nn) HV ?_; simp only [lxa, lxb, lxc]
      refine lx_r 13 (.int .i64 en) HV ?_; simp only [lxa, lxb, lxc]
      have PY : Pre w q mb R b1 x (w6.setRow W.heap.size (hfc t)) := P7.row (by have := P7.2.2.2.2.2.2; omega)
      have G9 : HfAt (w6.setRow W.heap.size (hfc t)) W.heap.size t := G4.set t
      refine lx_one 15 (by kernel_rfl) (stepT_store (w' := w6.setRow W.heap.size (hfc t)) rfl rfl rfl ?s2 (fun _ => ⟨PY.1, PY.2.1⟩) ?_)
      case s2 => exact exec_store_half (.tmp 8) (.tmp 25) rfl W.heap.size rfl t rfl _ G4
      generalize w6.setRow W.heap.size (hfc t) = WY at PY G9 ⊢
      refine lx_one 16 (by kernel_rfl) (stepT_val (w' := WY) (.int .i64 mm) rfl rfl rfl ?v20 (fun _ => ⟨PY.1, PY.2.1⟩) ?_)
      case v20 => first | (go_simp; rfl) | (go_simp; done)
      simp only [lxa, lxb, lxc]
      refine lx_one 17 (by kernel_rfl) (stepT_val (w' := WY) (.int .u64 nn) rfl rfl rfl ?v21 (fun _ => ⟨PY.1, PY.2.1⟩) ?_)
      case v21 => first | (go_simp; rfl) | (go_simp; done)
      simp only [lxa, lxb, lxc]
      refine lx_one 18 (by kernel_rfl) (stepT_val (w' := WY) (.int .i64 en) rfl rfl rfl ?v22 (fun _ => ⟨PY.1, PY.2.1⟩) ?_)
      case v22 => first | (go_simp; rfl) | (go_simp; done)
      simp only [lxa, lxb, lxc]
      refine lx_nil (by kernel_rfl) ?_
      go_wp2_with fail
      go_meet
      exact ⟨W.heap.size, rfl, rfl, rfl, rfl, PY.inv G9 (by omega)⟩
  case rest =>
    obtain ⟨g, rfl, rfl, rfl, rfl, I⟩ := hcut
    have HI : Hid (AInv w q mb (acc 0 0 false) 99 R b1 x g t wc) := I
    clear I P0
    have hen := HEN.out
    have hkd := HKD.out
    clear cA
    subst hen
    subst hkd
    have hd1 := fun w => demR_ok 0 w
    have hI : Calls Tryz.prog 91 #[.pointer (some ⟨q, 0, none⟩), env x] wc fun e w' => e = .panicked (gaveR 8) ∧ Below wc.heap.size wc w' := by
      refine (asItem_any wc q mb R HI.out.ra x).mono ?_
      rintro e w' ⟨h1, h2⟩
      rw [HRm.out] at h1
      exact ⟨h1.elim (fun h => absurd h.1 (by decide)) (fun h => h.2), h2⟩
    go_wp2_with (first
      | (go_at_call 69; refine (hd1 _).mono ?_; rintro e w3 ⟨rfl, hw3⟩; replace hw3 := hw3.symm; subst hw3)
      | (refine wp_load_en rfl (.tmp 7) rfl b1 rfl x HI.out.en ?_)
      | (go_at_call 91; refine hI.mono ?_; clear hI; rintro e w3 ⟨rfl, hb3⟩))
    have HI1 := HI.out.below hb3
    exact ⟨rfl, rfl, HI1.ra, HI1.kp⟩
set_option maxHeartbeats 3200000 in
theorem act_5 (w : World) (q mb : Nat) (R : Ro) (h : RA w q mb R) (c : ByteArray) (hc : c.size ≤ 1000000) (kind : Int) (x : En) (hx : ofE R c = x) (hxc : x.c.size ≤ 1000000) (t : Hf) (mm nn : Int) (en : Nat) (hA : actA x.h kind (R.nx + 1) = ((t, mm, nn), en))
    (hn : 0 ≤ R.nx ∧ R.nx < 9223372036854775807) (hl : R.ks.length < 900000) (hk : -1000000 < R.kept ∧ R.kept < 1000000) (hv : 0 ≤ R.ver ∧ R.ver < 9223372036854775807) (hen : en = 0) (hmm : mm ≠ 0) (hkd : kind = 12) (hrm : roomB R x = true) :
    Calls Tryz.prog 58 #[.pointer (some ⟨q, 0, none⟩), .string c, .int .i64 kind] w fun e w' => GaveV 0 (.agg (acc mm nn (chg { x with k := true } t))) e ∧ RA w' q mb (turnR R { x with k := true } t) ∧ Keep (fun j => j = q ∨ j = mb) w w' := by
  have cA : Hid (∀ w, Calls Tryz.prog 97 #[.agg #[.int .i64 x.h.o, .int .u64 x.h.n, .int .i64 x.h.i, .int .u64 x.h.m], .int .i64 kind, .int .u64 (R.nx + 1)] w fun e w' => e = .returned (.tuple #[.agg #[.int .i64 t.o, .int .u64 t.n, .int .i64 t.i, .int .u64 t.m], .int .i64 mm, .int .u64 nn, .int .i64 en]) ∧ Below w.heap.size w w') := by
    show ∀ w, _
    intro w
    have := Act_any x.h kind (R.nx + 1) w
    rw [hA] at this
    exact this
  have hwn : Hid (IntKind.wrap .u64 (R.nx + 1) = R.nx + 1) := by show _ = _; simp [IntKind.wrap, IntKind.bits, IntKind.signed]; omega
  have cO := of_any (w.alloc (.cells (acc 0 0 false) 99)) q mb R (h.below (below1 _ _)) c hc
  rw [hx] at cO
  have HB : Hid ((-1000000 < R.kept ∧ R.kept < 1000000) ∧ (0 ≤ R.ver ∧ R.ver < 9223372036854775807) ∧ R.ks.length < 900000 ∧ x.c.size ≤ 1000000) := ⟨hk, hv, hl, hxc⟩
  have HR : Hid (RA w q mb R) := h
  have HEN : Hid (en = 0) := hen
  have HKD : Hid (kind = 12) := hkd
  clear hen hkd
  have z1 : ((mm : Int) == 0) = false := by rw [beq_eq_false_iff_ne]; exact hmm
  have HM : Hid (mm ≠ 0) := hmm
  clear hmm
  have HRm : Hid (roomB R x = true) := hrm
  clear hrm
  clear hA hx hn hl hk hv hxc h hc
  obtain ⟨V, HVv⟩ : ∃ V, Hid (env x = V) := ⟨_, rfl⟩
  have HX2 : Hid (V = .agg (enc x)) := by show _ = _; rw [← HVv.out]; rfl
  rw [show env x = .agg (enc x) from rfl] at cO
  clear HVv
  go_enter Tryz.func58, Tryz.ntmps58
  unfold enc gsv at cO
  go_upto_region 2 with (first
    | (go_at_call 92; refine cO.mono ?_; clear cO; rintro e w1 ⟨rfl, hb1⟩))
  have P0 : Pre w q mb R w1.heap.size x (w1.alloc (.cells (enc x) 51)) := by
    have e1 : (w.alloc (.cells (acc 0 0 false) 99)).heap.size = w.heap.size + 1 := by simp
    have s1 := hb1.size
    have k1 : Keep (fun j => j = q ∨ j = mb) w w1 := (Keep.ofBelow (below1 w _)).trans (Keep.ofBelow hb1)
    exact ⟨EnAt.made _ _, ((HR.out.below (below1 w _)).below hb1).below (below1 _ _), box_below (box_below (push_at _ _ rfl) hb1) (below1 _ _), k1.trans (Keep.ofBelow (below1 _ _)), HR.out.lt, HR.out.map.lt, by omega, by simp⟩
  unfold enc gsv at P0
  obtain ⟨b1, Hb1⟩ : ∃ b1, Hid (w1.heap.size = b1) := ⟨_, rfl⟩
  rw [Hb1.out] at P0 ⊢
  generalize w1.alloc _ = w2 at P0 ⊢
  clear hb1
  go_cut [8, 9, 10, 11] from 8 to 28 (fun s8 s9 s10 s11 wx => ∃ g, s8 = .pointer (some ⟨g, 0, none⟩) ∧ s9 = .int .i64 mm ∧ s10 = .int .u64 nn ∧ s11 = .int .i64 en ∧ AInv w q mb (acc 0 0 false) 99 R b1 x g t wx)
  case first =>
    refine wp_region_lx (fun w' => EnAt w' b1 x ∧ RA w' q mb R) [] 19 (by kernel_rfl) (by kernel_rfl) ?_
    have P1 := P0.drew
    generalize w2.drew = W at P1 ⊢
    have HW := And.intro P1.1 P1.2.1
    refine lx_r 0 (.pointer (some ⟨b1, 4, none⟩)) HW ?_; simp only [lxa, lxb, lxc]
    refine lx_r 1 (.agg #[.int .i64 x.h.o, .int .u64 x.h.n, .int .i64 x.h.i, .int .u64 x.h.m]) HW ?_ (hv := fun w' hS => by have z0 := hS.1.c4; have z1 := hS.1.c5; have z2 := hS.1.c6; have z3 := hS.1.c7; first | (go_simp; rfl) | go_simp); simp only [lxa, lxb, lxc]
    refine lx_r 2 (.int .i64 kind) HW ?_; simp only [lxa, lxb, lxc]
    refine lx_r 3 (.pointer (some ⟨q, 0, none⟩)) HW ?_; simp only [lxa, lxb, lxc]
    refine lx_r 4 (.pointer (some ⟨q, 0, none⟩)) HW ?_; simp only [lxa, lxb, lxc]
    refine lx_r 5 (.pointer (some ⟨q, 3, none⟩)) HW ?_; simp only [lxa, lxb, lxc]
    refine lx_r 6 (.int .u64 R.nx) HW ?_ (hv := fun w' hS => by have z0 := hS.2.c3; first | (go_simp; rfl) | go_simp); simp only [lxa, lxb, lxc]
    refine lx_r 7 (.int .u64 (R.nx + 1)) HW ?_ (hv := fun w' hS => by have z0 := hwn.out; first | (go_simp; rfl) | go_simp); simp only [lxa, lxb, lxc]
    refine lx_two 8 14 (by kernel_rfl) ?_ ?_
    · refine stepT_call 97 ?c1 rfl rfl rfl ?d1 ?_
      case d1 => first | (go_simp; rfl) | go_simp
      refine (cA.out W).mono ?_
      rintro e w5 ⟨rfl, hb1⟩
      have P5 := P1.below hb1
      refine ⟨_, rfl, fun _ => ⟨P5.1, P5.2.1⟩, ?_⟩
      simp only [lxa, lxb, lxc]
      have HV : EnAt w5 b1 x ∧ RA w5 q mb R := ⟨P5.1, P5.2.1⟩
      refine lx_r 9 (.tuple #[.agg #[.int .i64 t.o, .int .u64 t.n, .int .i64 t.i, .int .u64 t.m], .int .i64 mm, .int .u64 nn, .int .i64 en]) HV ?_; simp only [lxa, lxb, lxc]
      refine lx_r 10 (.agg #[.int .i64 t.o, .int .u64 t.n, .int .i64 t.i, .int .u64 t.m]) HV ?_; simp only [lxa, lxb, lxc]
      refine lx_r 11 (.int .i64 mm) HV ?_; simp only [lxa, lxb, lxc]
      refine lx_r 12 (.int .u64 nn) HV ?_; simp only [lxa, lxb, lxc]
      refine lx_r 13 (.int .i64 en) HV ?_; simp only [lxa, lxb, lxc]
      refine lx_one 14 (by kernel_rfl) ?_
      have hb2 := below1 w5 (.cells #[.int .i64 0, .int .u64 0, .int .i64 0, .int .u64 0] 49)
      have P6 := P5.below hb2
      have G2 : HfAt (w5.alloc (.cells #[.int .i64 0, .int .u64 0, .int .i64 0, .int .u64 0] 49)) w5.heap.size ⟨0, 0, 0, 0⟩ := push_at _ _ rfl
      have gl : b1 < w5.heap.size := P5.1.lt
      refine stepT_val (w' := w5.alloc (.cells #[.int .i64 0, .int .u64 0, .int .i64 0, .int .u64 0] 49)) (.pointer (some ⟨w5.heap.size, 0, none⟩)) rfl rfl rfl ?d2 (fun _ => ⟨P6.1, P6.2.1⟩) ?_
      case d2 => first | (go_simp; rfl) | go_simp
      simp only [lxa, lxb, lxc]
      have PY : Pre w q mb R b1 x ((w5.alloc (.cells #[.int .i64 0, .int .u64 0, .int .i64 0, .int .u64 0] 49)).setRow w5.heap.size (hfc t)) := P6.row (by have := P6.2.2.2.2.2.2; omega)
      have G9 : HfAt ((w5.alloc (.cells #[.int .i64 0, .int .u64 0, .int .i64 0, .int .u64 0] 49)).setRow w5.heap.size (hfc t)) w5.heap.size t := G2.set t
      refine lx_one 15 (by kernel_rfl) (stepT_store (w' := (w5.alloc (.cells #[.int .i64 0, .int .u64 0, .int .i64 0, .int .u64 0] 49)).setRow w5.heap.size (hfc t)) rfl rfl rfl ?s1 (fun _ => ⟨PY.1, PY.2.1⟩) ?_)
      case s1 => exact exec_store_half (.tmp 8) (.tmp 25) rfl w5.heap.size rfl t rfl _ G2
      generalize (w5.alloc (.cells #[.int .i64 0, .int .u64 0, .int .i64 0, .int .u64 0] 49)).setRow w5.heap.size (hfc t) = WY at PY G9 ⊢
      refine lx_one 16 (by kernel_rfl) (stepT_val (w' := WY) (.int .i64 mm) rfl rfl rfl ?v10 (fun _ => ⟨PY.1, PY.2.1⟩) ?_)
      case v10 => first | (go_simp; rfl) | (go_simp; done)
      simp only [lxa, lxb, lxc]
      refine lx_one 17 (by kernel_rfl) (stepT_val (w' := WY) (.int .u64 nn) rfl rfl rfl ?v11 (fun _ => ⟨PY.1, PY.2.1⟩) ?_)
      case v11 => first | (go_simp; rfl) | (go_simp; done)
      simp only [lxa, lxb, lxc]
      refine lx_one 18 (by kernel_rfl) (stepT_val (w' := WY) (.int .i64 en) rfl rfl rfl ?v12 (fun _ => ⟨PY.1, PY.2.1⟩) ?_)
      case v12 => first | (go_simp; rfl) | (go_simp; done)
      simp only [lxa, lxb, lxc]
      refine lx_nil (by kernel_rfl) ?_
      go_wp2_with fail
      go_meet
      exact ⟨w5.heap.size, rfl, rfl, rfl, rfl, PY.inv G9 (by omega)⟩
    · have hb2 := below1 W (.cells #[.int .i64 0, .int .u64 0, .int .i64 0, .int .u64 0] 49)
      have P6 := P1.below hb2
      have G2 : HfAt (W.alloc (.cells #[.int .i64 0, .int .u64 0, .int .i64 0, .int .u64 0] 49)) W.heap.size ⟨0, 0, 0, 0⟩ := push_at _ _ rfl
      have gl : b1 < W.heap.size := P1.1.lt
      refine stepT_val (w' := W.alloc (.cells #[.int .i64 0, .int .u64 0, .int .i64 0, .int .u64 0] 49)) (.pointer (some ⟨W.heap.size, 0, none⟩)) rfl rfl rfl ?e2 (fun _ => ⟨P6.1, P6.2.1⟩) ?_
      case e2 => first | (go_simp; rfl) | go_simp
      simp only [lxa, lxb, lxc]
      refine lx_one 8 (by kernel_rfl) ?_
      refine stepT_call 97 ?c2 rfl rfl rfl ?e1 ?_
      case e1 => first | (go_simp; rfl) | go_simp
      refine (cA.out _).mono ?_
      rintro e w6 ⟨rfl, hb1⟩
      have P7 := P6.below hb1
      have G4 : HfAt w6 W.heap.size ⟨0, 0, 0, 0⟩ := box_below G2 hb1
      refine ⟨_, rfl, fun _ => ⟨P7.1, P7.2.1⟩, ?_⟩
      simp only [lxa, lxb, lxc]
      have HV : EnAt w6 b1 x ∧ RA w6 q mb R := ⟨P7.1, P7.2.1⟩
      refine lx_r 9 (.tuple #[.agg #[.int .i64 t.o, .int .u64 t.n, .int .i64 t.i, .int .u64 t.m], .int .i64 mm, .int .u64 nn, .int .i64 en]) HV ?_; simp only [lxa, lxb, lxc]
      refine lx_r 10 (.agg #[.int .i64 t.o, .int .u64 t.n, .int .i64 t.i, .int .u64 t.m]) HV ?_; simp only [lxa, lxb, lxc]
      refine lx_r 11 (.int .i64 mm) HV ?_; simp only [lxa, lxb, lxc]
      refine lx_r 12 (.int .u64 nn) HV ?_; simp only [lxa, lxb, lxc]
      refine lx_r 13 (.int .i64 en) HV ?_; simp only [lxa, lxb, lxc]
      have PY : Pre w q mb R b1 x (w6.setRow W.heap.size (hfc t)) := P7.row (by have := P7.2.2.2.2.2.2; omega)
      have G9 : HfAt (w6.setRow W.heap.size (hfc t)) W.heap.size t := G4.set t
      refine lx_one 15 (by kernel_rfl) (stepT_store (w' := w6.setRow W.heap.size (hfc t)) rfl rfl rfl ?s2 (fun _ => ⟨PY.1, PY.2.1⟩) ?_)
      case s2 => exact exec_store_half (.tmp 8) (.tmp 25) rfl W.heap.size rfl t rfl _ G4
      generalize w6.setRow W.heap.size (hfc t) = WY at PY G9 ⊢
      refine lx_one 16 (by kernel_rfl) (stepT_val (w' := WY) (.int .i64 mm) rfl rfl rfl ?v20 (fun _ => ⟨PY.1, PY.2.1⟩) ?_)
      case v20 => first | (go_simp; rfl) | (go_simp; done)
      simp only [lxa, lxb, lxc]
      refine lx_one 17 (by kernel_rfl) (stepT_val (w' := WY) (.int .u64 nn) rfl rfl rfl ?v21 (fun _ => ⟨PY.1, PY.2.1⟩) ?_)
      case v21 => first | (go_simp; rfl) | (go_simp; done)
      simp only [lxa, lxb, lxc]
      refine lx_one 18 (by kernel_rfl) (stepT_val (w' := WY) (.int .i64 en) rfl rfl rfl ?v22 (fun _ => ⟨PY.1, PY.2.1⟩) ?_)
      case v22 => first | (go_simp; rfl) | (go_simp; done)
      simp only [lxa, lxb, lxc]
      refine lx_nil (by kernel_rfl) ?_
      go_wp2_with fail
      go_meet
      exact ⟨W.heap.size, rfl, rfl, rfl, rfl, PY.inv G9 (by omega)⟩
  case rest =>
    obtain ⟨g, rfl, rfl, rfl, rfl, I⟩ := hcut
    have HI : Hid (AInv w q mb (acc 0 0 false) 99 R b1 x g t wc) := I
    clear I P0
    have hen := HEN.out
    have hkd := HKD.out
    clear cA
    subst hen
    subst hkd
    have hd1 := fun w => demR_ok 0 w
    have hI : Calls Tryz.prog 91 #[.pointer (some ⟨q, 0, none⟩), env x] wc fun e w' => e = .returned (env { x with k := true }) ∧ Below wc.heap.size wc w' := by
      refine (asItem_any wc q mb R HI.out.ra x).mono ?_
      rintro e w' ⟨h1, h2⟩
      rw [HRm.out] at h1
      exact ⟨h1.elim (fun h => h.2) (fun h => absurd h.1 (by decide)), h2⟩
    have tk1 : True := trivial
    go_upto_region 10 with (first
      | (go_at_call 69; refine (hd1 _).mono ?_; rintro e w3 ⟨rfl, hw3⟩; replace hw3 := hw3.symm; subst hw3)
      | (clear tk1; refine wp_load_en rfl (.tmp 7) rfl b1 rfl x HI.out.en ?_)
      | (go_at_call 91; refine hI.mono ?_; clear hI; rintro e w3 ⟨rfl, hb3⟩; have HI1 : Hid (AInv w q mb (acc 0 0 false) 99 R b1 x g t w3) := HI.out.below hb3)
      | (refine wp_store_en rfl (.tmp 7) (.tmp 44) rfl b1 rfl { x with k := true } rfl _ HI1.out.en ?_; obtain ⟨Y, HY⟩ : ∃ Y, Hid (w3.setRow b1 (enc { x with k := true }) = Y) := ⟨_, rfl⟩; have HI2 : Hid (AInv w q mb (acc 0 0 false) 99 R b1 { x with k := true } g t Y) := (by rw [← HY.out]; exact HI1.out.put _); rw [HY.out]; have c3 := HI2.out.ra.c3; have f3 := HI2.out.ra.fz 3; have wn := hwn.out))
    have HI3 : Hid (AInv w q mb (acc 0 0 false) 99 R b1 { x with k := true } g t Y) := HI2
    have hT := turn_any Y q mb R HI3.out.ra { x with k := true } t HB.out.2.2.2 HB.out.2.2.1 HB.out.1 HB.out.2.1
    clear c3 f3 wn
    go_wp2_with (first
      | (refine wp_load_en rfl (.tmp 7) rfl b1 rfl { x with k := true } HI3.out.en ?_)
      | (refine wp_load_half rfl (.tmp 8) rfl g rfl t HI3.out.hf ?_)
      | (go_at_call 98; refine hT.mono ?_; clear hT; rintro e w6 ⟨rfl, hr6, hk6⟩; have HI4 : Hid (AInv w q mb (acc 0 0 false) 99 (turnR R { x with k := true } t) b1 { x with k := true } g t w6) := HI3.out.turned hr6 hk6)
      | (refine wpList_store_row rfl 99 (.tmp 6) (.tmp 60) rfl w.heap.size (acc mm nn (chg { x with k := true } t)) rfl rfl 99 _ HI4.out.ac (by rw [infoActed]; rfl) (by rfl) (acc_one _ _ _) ?_))
    obtain ⟨a1, a2, a3⟩ := HI4.out.answer (acc mm nn (chg { x with k := true } t))
    have hld := run_loadVar_row _ w.heap.size 99 99 _ (0, 0) _ a2 Tryz.underlying99 rfl (by rw [infoActed]; rfl)
    first | exact bodyPost_ret (res_row rfl _ _ _ _ rfl hld) rfl ⟨gv_ok rfl, a1, a3⟩ | exact bodyPost_end (res_row rfl _ _ _ _ rfl hld) rfl ⟨gv_ok rfl, a1, a3⟩
set_option maxHeartbeats 3200000 in
theorem act_6 (w : World) (q mb : Nat) (R : Ro) (h : RA w q mb R) (c : ByteArray) (hc : c.size ≤ 1000000) (kind : Int) (x : En) (hx : ofE R c = x) (hxc : x.c.size ≤ 1000000) (t : Hf) (mm nn : Int) (en : Nat) (hA : actA x.h kind (R.nx + 1) = ((t, mm, nn), en))
    (hn : 0 ≤ R.nx ∧ R.nx < 9223372036854775807) (hl : R.ks.length < 900000) (hk : -1000000 < R.kept ∧ R.kept < 1000000) (hv : 0 ≤ R.ver ∧ R.ver < 9223372036854775807) (hen : en = 0) (hmm : mm ≠ 0) (hkd : kind = 12) (hrm : roomB R x = false) :
    Calls Tryz.prog 58 #[.pointer (some ⟨q, 0, none⟩), .string c, .int .i64 kind] w fun e w' => e = .panicked (gaveR 8) ∧ RA w' q mb (R) ∧ Keep (fun j => j = q ∨ j = mb) w w' := by
  have cA : Hid (∀ w, Calls Tryz.prog 97 #[.agg #[.int .i64 x.h.o, .int .u64 x.h.n, .int .i64 x.h.i, .int .u64 x.h.m], .int .i64 kind, .int .u64 (R.nx + 1)] w fun e w' => e = .returned (.tuple #[.agg #[.int .i64 t.o, .int .u64 t.n, .int .i64 t.i, .int .u64 t.m], .int .i64 mm, .int .u64 nn, .int .i64 en]) ∧ Below w.heap.size w w') := by
    show ∀ w, _
    intro w
    have := Act_any x.h kind (R.nx + 1) w
    rw [hA] at this
    exact this
  have hwn : Hid (IntKind.wrap .u64 (R.nx + 1) = R.nx + 1) := by show _ = _; simp [IntKind.wrap, IntKind.bits, IntKind.signed]; omega
  have cO := of_any (w.alloc (.cells (acc 0 0 false) 99)) q mb R (h.below (below1 _ _)) c hc
  rw [hx] at cO
  have HB : Hid ((-1000000 < R.kept ∧ R.kept < 1000000) ∧ (0 ≤ R.ver ∧ R.ver < 9223372036854775807) ∧ R.ks.length < 900000 ∧ x.c.size ≤ 1000000) := ⟨hk, hv, hl, hxc⟩
  have HR : Hid (RA w q mb R) := h
  have HEN : Hid (en = 0) := hen
  have HKD : Hid (kind = 12) := hkd
  clear hen hkd
  have z1 : ((mm : Int) == 0) = false := by rw [beq_eq_false_iff_ne]; exact hmm
  have HM : Hid (mm ≠ 0) := hmm
  clear hmm
  have HRm : Hid (roomB R x = false) := hrm
  clear hrm
  clear hA hx hn hl hk hv hxc h hc
  obtain ⟨V, HVv⟩ : ∃ V, Hid (env x = V) := ⟨_, rfl⟩
  have HX2 : Hid (V = .agg (enc x)) := by show _ = _; rw [← HVv.out]; rfl
  rw [show env x = .agg (enc x) from rfl] at cO
  clear HVv
  go_enter Tryz.func58, Tryz.ntmps58
  unfold enc gsv at cO
  go_upto_region 2 with (first
    | (go_at_call 92; refine cO.mono ?_; clear cO; rintro e w1 ⟨rfl, hb1⟩))
  have P0 : Pre w q mb R w1.heap.size x (w1.alloc (.cells (enc x) 51)) := by
    have e1 : (w.alloc (.cells (acc 0 0 false) 99)).heap.size = w.heap.size + 1 := by simp
    have s1 := hb1.size
    have k1 : Keep (fun j => j = q ∨ j = mb) w w1 := (Keep.ofBelow (below1 w _)).trans (Keep.ofBelow hb1)
    exact ⟨EnAt.made _ _, ((HR.out.below (below1 w _)).below hb1).below (below1 _ _), box_below (box_below (push_at _ _ rfl) hb1) (below1 _ _), k1.trans (Keep.ofBelow (below1 _ _)), HR.out.lt, HR.out.map.lt, by omega, by simp⟩
  unfold enc gsv at P0
  obtain ⟨b1, Hb1⟩ : ∃ b1, Hid (w1.heap.size = b1) := ⟨_, rfl⟩
  rw [Hb1.out] at P0 ⊢
  generalize w1.alloc _ = w2 at P0 ⊢
  clear hb1
  go_cut [8, 9, 10, 11] from 8 to 28 (fun s8 s9 s10 s11 wx => ∃ g, s8 = .pointer (some ⟨g, 0, none⟩) ∧ s9 = .int .i64 mm ∧ s10 = .int .u64 nn ∧ s11 = .int .i64 en ∧ AInv w q mb (acc 0 0 false) 99 R b1 x g t wx)
  case first =>
    refine wp_region_lx (fun w' => EnAt w' b1 x ∧ RA w' q mb R) [] 19 (by kernel_rfl) (by kernel_rfl) ?_
    have P1 := P0.drew
    generalize w2.drew = W at P1 ⊢
    have HW := And.intro P1.1 P1.2.1
    refine lx_r 0 (.pointer (some ⟨b1, 4, none⟩)) HW ?_; simp only [lxa, lxb, lxc]
    refine lx_r 1 (.agg #[.int .i64 x.h.o, .int .u64 x.h.n, .int .i64 x.h.i, .int .u64 x.h.m]) HW ?_ (hv := fun w' hS => by have z0 := hS.1.c4; have z1 := hS.1.c5; have z2 := hS.1.c6; have z3 := hS.1.c7; first | (go_simp; rfl) | go_simp); simp only [lxa, lxb, lxc]
    refine lx_r 2 (.int .i64 kind) HW ?_; simp only [lxa, lxb, lxc]
    refine lx_r 3 (.pointer (some ⟨q, 0, none⟩)) HW ?_; simp only [lxa, lxb, lxc]
    refine lx_r 4 (.pointer (some ⟨q, 0, none⟩)) HW ?_; simp only [lxa, lxb, lxc]
    refine lx_r 5 (.pointer (some ⟨q, 3, none⟩)) HW ?_; simp only [lxa, lxb, lxc]
    refine lx_r 6 (.int .u64 R.nx) HW ?_ (hv := fun w' hS => by have z0 := hS.2.c3; first | (go_simp; rfl) | go_simp); simp only [lxa, lxb, lxc]
    refine lx_r 7 (.int .u64 (R.nx + 1)) HW ?_ (hv := fun w' hS => by have z0 := hwn.out; first | (go_simp; rfl) | go_simp); simp only [lxa, lxb, lxc]
    refine lx_two 8 14 (by kernel_rfl) ?_ ?_
    · refine stepT_call 97 ?c1 rfl rfl rfl ?d1 ?_
      case d1 => first | (go_simp; rfl) | go_simp
      refine (cA.out W).mono ?_
      rintro e w5 ⟨rfl, hb1⟩
      have P5 := P1.below hb1
      refine ⟨_, rfl, fun _ => ⟨P5.1, P5.2.1⟩, ?_⟩
      simp only [lxa, lxb, lxc]
      have HV : EnAt w5 b1 x ∧ RA w5 q mb R := ⟨P5.1, P5.2.1⟩
      refine lx_r 9 (.tuple #[.agg #[.int .i64 t.o, .int .u64 t.n, .int .i64 t.i, .int .u64 t.m], .int .i64 mm, .int .u64 nn, .int .i64 en]) HV ?_; simp only [lxa, lxb, lxc]
      refine lx_r 10 (.agg #[.int .i64 t.o, .int .u64 t.n, .int .i64 t.i, .int .u64 t.m]) HV ?_; simp only [lxa, lxb, lxc]
      refine lx_r 11 (.int .i64 mm) HV ?_; simp only [lxa, lxb, lxc]
      refine lx_r 12 (.int .u64 nn) HV ?_; simp only [lxa, lxb, lxc]
      refine lx_r 13 (.int .i64 en) HV ?_; simp only [lxa, lxb, lxc]
      refine lx_one 14 (by kernel_rfl) ?_
      have hb2 := below1 w5 (.cells #[.int .i64 0, .int .u64 0, .int .i64 0, .int .u64 0] 49)
      have P6 := P5.below hb2
      have G2 : HfAt (w5.alloc (.cells #[.int .i64 0, .int .u64 0, .int .i64 0, .int .u64 0] 49)) w5.heap.size ⟨0, 0, 0, 0⟩ := push_at _ _ rfl
      have gl : b1 < w5.heap.size := P5.1.lt
      refine stepT_val (w' := w5.alloc (.cells #[.int .i64 0, .int .u64 0, .int .i64 0, .int .u64 0] 49)) (.pointer (some ⟨w5.heap.size, 0, none⟩)) rfl rfl rfl ?d2 (fun _ => ⟨P6.1, P6.2.1⟩) ?_
      case d2 => first | (go_simp; rfl) | go_simp
      simp only [lxa, lxb, lxc]
      have PY : Pre w q mb R b1 x ((w5.alloc (.cells #[.int .i64 0, .int .u64 0, .int .i64 0, .int .u64 0] 49)).setRow w5.heap.size (hfc t)) := P6.row (by have := P6.2.2.2.2.2.2; omega)
      have G9 : HfAt ((w5.alloc (.cells #[.int .i64 0, .int .u64 0, .int .i64 0, .int .u64 0] 49)).setRow w5.heap.size (hfc t)) w5.heap.size t := G2.set t
      refine lx_one 15 (by kernel_rfl) (stepT_store (w' := (w5.alloc (.cells #[.int .i64 0, .int .u64 0, .int .i64 0, .int .u64 0] 49)).setRow w5.heap.size (hfc t)) rfl rfl rfl ?s1 (fun _ => ⟨PY.1, PY.2.1⟩) ?_)
      case s1 => exact exec_store_half (.tmp 8) (.tmp 25) rfl w5.heap.size rfl t rfl _ G2
      generalize (w5.alloc (.cells #[.int .i64 0, .int .u64 0, .int .i64 0, .int .u64 0] 49)).setRow w5.heap.size (hfc t) = WY at PY G9 ⊢
      refine lx_one 16 (by kernel_rfl) (stepT_val (w' := WY) (.int .i64 mm) rfl rfl rfl ?v10 (fun _ => ⟨PY.1, PY.2.1⟩) ?_)
      case v10 => first | (go_simp; rfl) | (go_simp; done)
      simp only [lxa, lxb, lxc]
      refine lx_one 17 (by kernel_rfl) (stepT_val (w' := WY) (.int .u64 nn) rfl rfl rfl ?v11 (fun _ => ⟨PY.1, PY.2.1⟩) ?_)
      case v11 => first | (go_simp; rfl) | (go_simp; done)
      simp only [lxa, lxb, lxc]
      refine lx_one 18 (by kernel_rfl) (stepT_val (w' := WY) (.int .i64 en) rfl rfl rfl ?v12 (fun _ => ⟨PY.1, PY.2.1⟩) ?_)
      case v12 => first | (go_simp; rfl) | (go_simp; done)
      simp only [lxa, lxb, lxc]
      refine lx_nil (by kernel_rfl) ?_
      go_wp2_with fail
      go_meet
      exact ⟨w5.heap.size, rfl, rfl, rfl, rfl, PY.inv G9 (by omega)⟩
    · have hb2 := below1 W (.cells #[.int .i64 0, .int .u64 0, .int .i64 0, .int .u64 0] 49)
      have P6 := P1.below hb2
      have G2 : HfAt (W.alloc (.cells #[.int .i64 0, .int .u64 0, .int .i64 0, .int .u64 0] 49)) W.heap.size ⟨0, 0, 0, 0⟩ := push_at _ _ rfl
      have gl : b1 < W.heap.size := P1.1.lt
      refine stepT_val (w' := W.alloc (.cells #[.int .i64 0, .int .u64 0, .int .i64 0, .int .u64 0] 49)) (.pointer (some ⟨W.heap.size, 0, none⟩)) rfl rfl rfl ?e2 (fun _ => ⟨P6.1, P6.2.1⟩) ?_
      case e2 => first | (go_simp; rfl) | go_simp
      simp only [lxa, lxb, lxc]
      refine lx_one 8 (by kernel_rfl) ?_
      refine stepT_call 97 ?c2 rfl rfl rfl ?e1 ?_
      case e1 => first | (go_simp; rfl) | go_simp
      refine (cA.out _).mono ?_
      rintro e w6 ⟨rfl, hb1⟩
      have P7 := P6.below hb1
      have G4 : HfAt w6 W.heap.size ⟨0, 0, 0, 0⟩ := box_below G2 hb1
      refine ⟨_, rfl, fun _ => ⟨P7.1, P7.2.1⟩, ?_⟩
      simp only [lxa, lxb, lxc]
      have HV : EnAt w6 b1 x ∧ RA w6 q mb R := ⟨P7.1, P7.2.1⟩
      refine lx_r 9 (.tuple #[.agg #[.int .i64 t.o, .int .u64 t.n, .int .i64 t.i, .int .u64 t.m], .int .i64 mm, .int .u64 nn, .int .i64 en]) HV ?_; simp only [lxa, lxb, lxc]
      refine lx_r 10 (.agg #[.int .i64 t.o, .int .u64 t.n, .int .i64 t.i, .int .u64 t.m]) HV ?_; simp only [lxa, lxb, lxc]
      refine lx_r 11 (.int .i64 mm) HV ?_; simp only [lxa, lxb, lxc]
      refine lx_r 12 (.int .u64 nn) HV ?_; simp only [lxa, lxb, lxc]
      refine lx_r 13 (.int .i64 en) HV ?_; simp only [lxa, lxb, lxc]
      have PY : Pre w q mb R b1 x (w6.setRow W.heap.size (hfc t)) := P7.row (by have := P7.2.2.2.2.2.2; omega)
      have G9 : HfAt (w6.setRow W.heap.size (hfc t)) W.heap.size t := G4.set t
      refine lx_one 15 (by kernel_rfl) (stepT_store (w' := w6.setRow W.heap.size (hfc t)) rfl rfl rfl ?s2 (fun _ => ⟨PY.1, PY.2.1⟩) ?_)
      case s2 => exact exec_store_half (.tmp 8) (.tmp 25) rfl W.heap.size rfl t rfl _ G4
      generalize w6.setRow W.heap.size (hfc t) = WY at PY G9 ⊢
      refine lx_one 16 (by kernel_rfl) (stepT_val (w' := WY) (.int .i64 mm) rfl rfl rfl ?v20 (fun _ => ⟨PY.1, PY.2.1⟩) ?_)
      case v20 => first | (go_simp; rfl) | (go_simp; done)
      simp only [lxa, lxb, lxc]
      refine lx_one 17 (by kernel_rfl) (stepT_val (w' := WY) (.int .u64 nn) rfl rfl rfl ?v21 (fun _ => ⟨PY.1, PY.2.1⟩) ?_)
      case v21 => first | (go_simp; rfl) | (go_simp; done)
      simp only [lxa, lxb, lxc]
      refine lx_one 18 (by kernel_rfl) (stepT_val (w' := WY) (.int .i64 en) rfl rfl rfl ?v22 (fun _ => ⟨PY.1, PY.2.1⟩) ?_)
      case v22 => first | (go_simp; rfl) | (go_simp; done)
      simp only [lxa, lxb, lxc]
      refine lx_nil (by kernel_rfl) ?_
      go_wp2_with fail
      go_meet
      exact ⟨W.heap.size, rfl, rfl, rfl, rfl, PY.inv G9 (by omega)⟩
  case rest =>
    obtain ⟨g, rfl, rfl, rfl, rfl, I⟩ := hcut
    have HI : Hid (AInv w q mb (acc 0 0 false) 99 R b1 x g t wc) := I
    clear I P0
    have hen := HEN.out
    have hkd := HKD.out
    clear cA
    subst hen
    subst hkd
    have hd1 := fun w => demR_ok 0 w
    have hI : Calls Tryz.prog 91 #[.pointer (some ⟨q, 0, none⟩), env x] wc fun e w' => e = .panicked (gaveR 8) ∧ Below wc.heap.size wc w' := by
      refine (asItem_any wc q mb R HI.out.ra x).mono ?_
      rintro e w' ⟨h1, h2⟩
      rw [HRm.out] at h1
      exact ⟨h1.elim (fun h => absurd h.1 (by decide)) (fun h => h.2), h2⟩
    go_wp2_with (first
      | (go_at_call 69; refine (hd1 _).mono ?_; rintro e w3 ⟨rfl, hw3⟩; replace hw3 := hw3.symm; subst hw3)
      | (refine wp_load_en rfl (.tmp 7) rfl b1 rfl x HI.out.en ?_)
      | (go_at_call 91; refine hI.mono ?_; clear hI; rintro e w3 ⟨rfl, hb3⟩))
    have HI1 := HI.out.below hb3
    exact ⟨rfl, rfl, HI1.ra, HI1.kp⟩
set_option maxHeartbeats 3200000 in
theorem act_7 (w : World) (q mb : Nat) (R : Ro) (h : RA w q mb R) (c : ByteArray) (hc : c.size ≤ 1000000) (kind : Int) (x : En) (hx : ofE R c = x) (hxc : x.c.size ≤ 1000000) (t : Hf) (mm nn : Int) (en : Nat) (hA : actA x.h kind (R.nx + 1) = ((t, mm, nn), en))
    (hn : 0 ≤ R.nx ∧ R.nx < 9223372036854775807) (hl : R.ks.length < 900000) (hk : -1000000 < R.kept ∧ R.kept < 1000000) (hv : 0 ≤ R.ver ∧ R.ver < 9223372036854775807) (hen : en = 0) (hmm : mm ≠ 0) (hk1 : kind ≠ 11) (hk2 : kind ≠ 12) :
    Calls Tryz.prog 58 #[.pointer (some ⟨q, 0, none⟩), .string c, .int .i64 kind] w fun e w' => GaveV 0 (.agg (acc mm nn (chg x t))) e ∧ RA w' q mb (turnR R x t) ∧ Keep (fun j => j = q ∨ j = mb) w w' := by
  have cA : Hid (∀ w, Calls Tryz.prog 97 #[.agg #[.int .i64 x.h.o, .int .u64 x.h.n, .int .i64 x.h.i, .int .u64 x.h.m], .int .i64 kind, .int .u64 (R.nx + 1)] w fun e w' => e = .returned (.tuple #[.agg #[.int .i64 t.o, .int .u64 t.n, .int .i64 t.i, .int .u64 t.m], .int .i64 mm, .int .u64 nn, .int .i64 en]) ∧ Below w.heap.size w w') := by
    show ∀ w, _
    intro w
    have := Act_any x.h kind (R.nx + 1) w
    rw [hA] at this
    exact this
  have hwn : Hid (IntKind.wrap .u64 (R.nx + 1) = R.nx + 1) := by show _ = _; simp [IntKind.wrap, IntKind.bits, IntKind.signed]; omega
  have cO := of_any (w.alloc (.cells (acc 0 0 false) 99)) q mb R (h.below (below1 _ _)) c hc
  rw [hx] at cO
  have HB : Hid ((-1000000 < R.kept ∧ R.kept < 1000000) ∧ (0 ≤ R.ver ∧ R.ver < 9223372036854775807) ∧ R.ks.length < 900000 ∧ x.c.size ≤ 1000000) := ⟨hk, hv, hl, hxc⟩
  have HR : Hid (RA w q mb R) := h
  have HEN : Hid (en = 0) := hen
  clear hen
  have z1 : ((mm : Int) == 0) = false := by rw [beq_eq_false_iff_ne]; exact hmm
  have HM : Hid (mm ≠ 0) := hmm
  clear hmm
  have z2 : (kind == 11) = false := by rw [beq_eq_false_iff_ne]; exact hk1
  have z3 : (kind == 12) = false := by rw [beq_eq_false_iff_ne]; exact hk2
  clear hk1 hk2
  clear hA hx hn hl hk hv hxc h hc
  obtain ⟨V, HVv⟩ : ∃ V, Hid (env x = V) := ⟨_, rfl⟩
  have HX2 : Hid (V = .agg (enc x)) := by show _ = _; rw [← HVv.out]; rfl
  rw [show env x = .agg (enc x) from rfl] at cO
  clear HVv
  go_enter Tryz.func58, Tryz.ntmps58
  unfold enc gsv at cO
  go_upto_region 2 with (first
    | (go_at_call 92; refine cO.mono ?_; clear cO; rintro e w1 ⟨rfl, hb1⟩))
  have P0 : Pre w q mb R w1.heap.size x (w1.alloc (.cells (enc x) 51)) := by
    have e1 : (w.alloc (.cells (acc 0 0 false) 99)).heap.size = w.heap.size + 1 := by simp
    have s1 := hb1.size
    have k1 : Keep (fun j => j = q ∨ j = mb) w w1 := (Keep.ofBelow (below1 w _)).trans (Keep.ofBelow hb1)
    exact ⟨EnAt.made _ _, ((HR.out.below (below1 w _)).below hb1).below (below1 _ _), box_below (box_below (push_at _ _ rfl) hb1) (below1 _ _), k1.trans (Keep.ofBelow (below1 _ _)), HR.out.lt, HR.out.map.lt, by omega, by simp⟩
  unfold enc gsv at P0
  obtain ⟨b1, Hb1⟩ : ∃ b1, Hid (w1.heap.size = b1) := ⟨_, rfl⟩
  rw [Hb1.out] at P0 ⊢
  generalize w1.alloc _ = w2 at P0 ⊢
  clear hb1
  go_cut [8, 9, 10, 11] from 8 to 28 (fun s8 s9 s10 s11 wx => ∃ g, s8 = .pointer (some ⟨g, 0, none⟩) ∧ s9 = .int .i64 mm ∧ s10 = .int .u64 nn ∧ s11 = .int .i64 en ∧ AInv w q mb (acc 0 0 false) 99 R b1 x g t wx)
  case first =>
    refine wp_region_lx (fun w' => EnAt w' b1 x ∧ RA w' q mb R) [] 19 (by kernel_rfl) (by kernel_rfl) ?_
    have P1 := P0.drew
    generalize w2.drew = W at P1 ⊢
    have HW := And.intro P1.1 P1.2.1
    refine lx_r 0 (.pointer (some ⟨b1, 4, none⟩)) HW ?_; simp only [lxa, lxb, lxc]
    refine lx_r 1 (.agg #[.int .i64 x.h.o, .int .u64 x.h.n, .int .i64 x.h.i, .int .u64 x.h.m]) HW ?_ (hv := fun w' hS => by have z0 := hS.1.c4; have z1 := hS.1.c5; have z2 := hS.1.c6; have z3 := hS.1.c7; first | (go_simp; rfl) | go_simp); simp only [lxa, lxb, lxc]
    refine lx_r 2 (.int .i64 kind) HW ?_; simp only [lxa, lxb, lxc]
    refine lx_r 3 (.pointer (some ⟨q, 0, none⟩)) HW ?_; simp only [lxa, lxb, lxc]
    refine lx_r 4 (.pointer (some ⟨q, 0, none⟩)) HW ?_; simp only [lxa, lxb, lxc]
    refine lx_r 5 (.pointer (some ⟨q, 3, none⟩)) HW ?_; simp only [lxa, lxb, lxc]
    refine lx_r 6 (.int .u64 R.nx) HW ?_ (hv := fun w' hS => by have z0 := hS.2.c3; first | (go_simp; rfl) | go_simp); simp only [lxa, lxb, lxc]
    refine lx_r 7 (.int .u64 (R.nx + 1)) HW ?_ (hv := fun w' hS => by have z0 := hwn.out; first | (go_simp; rfl) | go_simp); simp only [lxa, lxb, lxc]
    refine lx_two 8 14 (by kernel_rfl) ?_ ?_
    · refine stepT_call 97 ?c1 rfl rfl rfl ?d1 ?_
      case d1 => first | (go_simp; rfl) | go_simp
      refine (cA.out W).mono ?_
      rintro e w5 ⟨rfl, hb1⟩
      have P5 := P1.below hb1
      refine ⟨_, rfl, fun _ => ⟨P5.1, P5.2.1⟩, ?_⟩
      simp only [lxa, lxb, lxc]
      have HV : EnAt w5 b1 x ∧ RA w5 q mb R := ⟨P5.1, P5.2.1⟩
      refine lx_r 9 (.tuple #[.agg #[.int .i64 t.o, .int .u64 t.n, .int .i64 t.i, .int .u64 t.m], .int .i64 mm, .int .u64 nn, .int .i64 en]) HV ?_; simp only [lxa, lxb, lxc]
      refine lx_r 10 (.agg #[.int .i64 t.o, .int .u64 t.n, .int .i64 t.i, .int .u64 t.m]) HV ?_; simp only [lxa, lxb, lxc]
      refine lx_r 11 (.int .i64 mm) HV ?_; simp only [lxa, lxb, lxc]
      refine lx_r 12 (.int .u64 nn) HV ?_; simp only [lxa, lxb, lxc]
      refine lx_r 13 (.int .i64 en) HV ?_; simp only [lxa, lxb, lxc]
      refine lx_one 14 (by kernel_rfl) ?_
      have hb2 := below1 w5 (.cells #[.int .i64 0, .int .u64 0, .int .i64 0, .int .u64 0] 49)
      have P6 := P5.below hb2
      have G2 : HfAt (w5.alloc (.cells #[.int .i64 0, .int .u64 0, .int .i64 0, .int .u64 0] 49)) w5.heap.size ⟨0, 0, 0, 0⟩ := push_at _ _ rfl
      have gl : b1 < w5.heap.size := P5.1.lt
      refine stepT_val (w' := w5.alloc (.cells #[.int .i64 0, .int .u64 0, .int .i64 0, .int .u64 0] 49)) (.pointer (some ⟨w5.heap.size, 0, none⟩)) rfl rfl rfl ?d2 (fun _ => ⟨P6.1, P6.2.1⟩) ?_
      case d2 => first | (go_simp; rfl) | go_simp
      simp only [lxa, lxb, lxc]
      have PY : Pre w q mb R b1 x ((w5.alloc (.cells #[.int .i64 0, .int .u64 0, .int .i64 0, .int .u64 0] 49)).setRow w5.heap.size (hfc t)) := P6.row (by have := P6.2.2.2.2.2.2; omega)
      have G9 : HfAt ((w5.alloc (.cells #[.int .i64 0, .int .u64 0, .int .i64 0, .int .u64 0] 49)).setRow w5.heap.size (hfc t)) w5.heap.size t := G2.set t
      refine lx_one 15 (by kernel_rfl) (stepT_store (w' := (w5.alloc (.cells #[.int .i64 0, .int .u64 0, .int .i64 0, .int .u64 0] 49)).setRow w5.heap.size (hfc t)) rfl rfl rfl ?s1 (fun _ => ⟨PY.1, PY.2.1⟩) ?_)
      case s1 => exact exec_store_half (.tmp 8) (.tmp 25) rfl w5.heap.size rfl t rfl _ G2
      generalize (w5.alloc (.cells #[.int .i64 0, .int .u64 0, .int .i64 0, .int .u64 0] 49)).setRow w5.heap.size (hfc t) = WY at PY G9 ⊢
      refine lx_one 16 (by kernel_rfl) (stepT_val (w' := WY) (.int .i64 mm) rfl rfl rfl ?v10 (fun _ => ⟨PY.1, PY.2.1⟩) ?_)
      case v10 => first | (go_simp; rfl) | (go_simp; done)
      simp only [lxa, lxb, lxc]
      refine lx_one 17 (by kernel_rfl) (stepT_val (w' := WY) (.int .u64 nn) rfl rfl rfl ?v11 (fun _ => ⟨PY.1, PY.2.1⟩) ?_)
      case v11 => first | (go_simp; rfl) | (go_simp; done)
      simp only [lxa, lxb, lxc]
      refine lx_one 18 (by kernel_rfl) (stepT_val (w' := WY) (.int .i64 en) rfl rfl rfl ?v12 (fun _ => ⟨PY.1, PY.2.1⟩) ?_)
      case v12 => first | (go_simp; rfl) | (go_simp; done)
      simp only [lxa, lxb, lxc]
      refine lx_nil (by kernel_rfl) ?_
      go_wp2_with fail
      go_meet
      exact ⟨w5.heap.size, rfl, rfl, rfl, rfl, PY.inv G9 (by omega)⟩
    · have hb2 := below1 W (.cells #[.int .i64 0, .int .u64 0, .int .i64 0, .int .u64 0] 49)
      have P6 := P1.below hb2
      have G2 : HfAt (W.alloc (.cells #[.int .i64 0, .int .u64 0, .int .i64 0, .int .u64 0] 49)) W.heap.size ⟨0, 0, 0, 0⟩ := push_at _ _ rfl
      have gl : b1 < W.heap.size := P1.1.lt
      refine stepT_val (w' := W.alloc (.cells #[.int .i64 0, .int .u64 0, .int .i64 0, .int .u64 0] 49)) (.pointer (some ⟨W.heap.size, 0, none⟩)) rfl rfl rfl ?e2 (fun _ => ⟨P6.1, P6.2.1⟩) ?_
      case e2 => first | (go_simp; rfl) | go_simp
      simp only [lxa, lxb, lxc]
      refine lx_one 8 (by kernel_rfl) ?_
      refine stepT_call 97 ?c2 rfl rfl rfl ?e1 ?_
      case e1 => first | (go_simp; rfl) | go_simp
      refine (cA.out _).mono ?_
      rintro e w6 ⟨rfl, hb1⟩
      have P7 := P6.below hb1
      have G4 : HfAt w6 W.heap.size ⟨0, 0, 0, 0⟩ := box_below G2 hb1
      refine ⟨_, rfl, fun _ => ⟨P7.1, P7.2.1⟩, ?_⟩
      simp only [lxa, lxb, lxc]
      have HV : EnAt w6 b1 x ∧ RA w6 q mb R := ⟨P7.1, P7.2.1⟩
      refine lx_r 9 (.tuple #[.agg #[.int .i64 t.o, .int .u64 t.n, .int .i64 t.i, .int .u64 t.m], .int .i64 mm, .int .u64 nn, .int .i64 en]) HV ?_; simp only [lxa, lxb, lxc]
      refine lx_r 10 (.agg #[.int .i64 t.o, .int .u64 t.n, .int .i64 t.i, .int .u64 t.m]) HV ?_; simp only [lxa, lxb, lxc]
      refine lx_r 11 (.int .i64 mm) HV ?_; simp only [lxa, lxb, lxc]
      refine lx_r 12 (.int .u64 nn) HV ?_; simp only [lxa, lxb, lxc]
      refine lx_r 13 (.int .i64 en) HV ?_; simp only [lxa, lxb, lxc]
      have PY : Pre w q mb R b1 x (w6.setRow W.heap.size (hfc t)) := P7.row (by have := P7.2.2.2.2.2.2; omega)
      have G9 : HfAt (w6.setRow W.heap.size (hfc t)) W.heap.size t := G4.set t
      refine lx_one 15 (by kernel_rfl) (stepT_store (w' := w6.setRow W.heap.size (hfc t)) rfl rfl rfl ?s2 (fun _ => ⟨PY.1, PY.2.1⟩) ?_)
      case s2 => exact exec_store_half (.tmp 8) (.tmp 25) rfl W.heap.size rfl t rfl _ G4
      generalize w6.setRow W.heap.size (hfc t) = WY at PY G9 ⊢
      refine lx_one 16 (by kernel_rfl) (stepT_val (w' := WY) (.int .i64 mm) rfl rfl rfl ?v20 (fun _ => ⟨PY.1, PY.2.1⟩) ?_)
      case v20 => first | (go_simp; rfl) | (go_simp; done)
      simp only [lxa, lxb, lxc]
      refine lx_one 17 (by kernel_rfl) (stepT_val (w' := WY) (.int .u64 nn) rfl rfl rfl ?v21 (fun _ => ⟨PY.1, PY.2.1⟩) ?_)
      case v21 => first | (go_simp; rfl) | (go_simp; done)
      simp only [lxa, lxb, lxc]
      refine lx_one 18 (by kernel_rfl) (stepT_val (w' := WY) (.int .i64 en) rfl rfl rfl ?v22 (fun _ => ⟨PY.1, PY.2.1⟩) ?_)
      case v22 => first | (go_simp; rfl) | (go_simp; done)
      simp only [lxa, lxb, lxc]
      refine lx_nil (by kernel_rfl) ?_
      go_wp2_with fail
      go_meet
      exact ⟨W.heap.size, rfl, rfl, rfl, rfl, PY.inv G9 (by omega)⟩
  case rest =>
    obtain ⟨g, rfl, rfl, rfl, rfl, I⟩ := hcut
    have HI : Hid (AInv w q mb (acc 0 0 false) 99 R b1 x g t wc) := I
    clear I P0
    have hen := HEN.out
    clear cA
    subst hen
    have hd1 := fun w => demR_ok 0 w
    go_upto_region 10 with (first
      | (go_at_call 69; refine (hd1 _).mono ?_; rintro e w3 ⟨rfl, hw3⟩; replace hw3 := hw3.symm; subst hw3))
    have hT := turn_any wc q mb R HI.out.ra x t HB.out.2.2.2 HB.out.2.2.1 HB.out.1 HB.out.2.1
    go_wp2_with (first
      | (refine wp_load_en rfl (.tmp 7) rfl b1 rfl x HI.out.en ?_)
      | (refine wp_load_half rfl (.tmp 8) rfl g rfl t HI.out.hf ?_)
      | (go_at_call 98; refine hT.mono ?_; clear hT; rintro e w6 ⟨rfl, hr6, hk6⟩; have HI4 : Hid (AInv w q mb (acc 0 0 false) 99 (turnR R x t) b1 x g t w6) := HI.out.turned hr6 hk6)
      | (refine wpList_store_row rfl 99 (.tmp 6) (.tmp 60) rfl w.heap.size (acc mm nn (chg x t)) rfl rfl 99 _ HI4.out.ac (by rw [infoActed]; rfl) (by rfl) (acc_one _ _ _) ?_))
    obtain ⟨a1, a2, a3⟩ := HI4.out.answer (acc mm nn (chg x t))
    have hld := run_loadVar_row _ w.heap.size 99 99 _ (0, 0) _ a2 Tryz.underlying99 rfl (by rw [infoActed]; rfl)
    first | exact bodyPost_ret (res_row rfl _ _ _ _ rfl hld) rfl ⟨gv_ok rfl, a1, a3⟩ | exact bodyPost_end (res_row rfl _ _ _ _ rfl hld) rfl ⟨gv_ok rfl, a1, a3⟩
end Go.Proofs.YtppdopcghnfapaaGreatDoor

/- roster: hear. -/
set_option maxRecDepth 100000
namespace Go.Proofs.YtppdopcghnfapaaGreatDoor
open Go.RowKit Go.Joins
set_option maxHeartbeats 3200000 in
theorem hear_1 (w : World) (q mb : Nat) (R : Ro) (h : RA w q mb R) (c : ByteArray) (hc : c.size ≤ 1000000) (mail n : Int) (x : En) (hx : ofE R c = x) (hxc : x.c.size ≤ 1000000) (t : Hf) (tl : Int) (en : Nat) (hA : hearA x.h mail n = ((t, tl), en))
    (hl : R.ks.length < 900000) (hk : 0 ≤ R.kept ∧ R.kept < 1000000) (hv : 0 ≤ R.ver ∧ R.ver < 9223372036854775807) (hen : en ≠ 0) :
    Calls Tryz.prog 61 #[.pointer (some ⟨q, 0, none⟩), .string c, .int .i64 mail, .int .u64 n] w fun e w' => e = .panicked (gaveR en) ∧ RA w' q mb (R) ∧ Keep (fun j => j = q ∨ j = mb) w w' := by
  have cA : Hid (∀ w, Calls Tryz.prog 100 #[.agg #[.int .i64 x.h.o, .int .u64 x.h.n, .int .i64 x.h.i, .int .u64 x.h.m], .int .i64 mail, .int .u64 n] w fun e w' => e = .returned (.tuple #[.agg #[.int .i64 t.o, .int .u64 t.n, .int .i64 t.i, .int .u64 t.m], .int .i64 tl, .int .i64 en]) ∧ Below w.heap.size w w') := by
    show ∀ w, _
    intro w
    have := Hear_any x.h mail n w
    rw [hA] at this
    exact this
  have cO := of_any (w.alloc (.cells (hec 0 false false) 60)) q mb R (h.below (below1 _ _)) c hc
  rw [hx] at cO
  have HB : Hid ((-1000000 < R.kept ∧ R.kept < 1000000) ∧ (0 ≤ R.ver ∧ R.ver < 9223372036854775807) ∧ R.ks.length < 900000 ∧ x.c.size ≤ 1000000 ∧ 0 ≤ R.kept) := ⟨⟨by omega, hk.2⟩, hv, hl, hxc, hk.1⟩
  have HR : Hid (RA w q mb R) := h
  have z0 : ((en : Int) == 0) = false := by rw [beq_eq_false_iff_ne]; omega
  have HE : Hid (en ≠ 0) := hen
  clear hen
  clear hA hx hl hk hv hxc h hc
  rw [show env x = .agg (enc x) from rfl] at cO
  go_enter Tryz.func61, Tryz.ntmps61
  unfold enc gsv at cO
  go_upto_region 2 with (first
    | (go_at_call 92; refine cO.mono ?_; clear cO; rintro e w1 ⟨rfl, hb1⟩))
  have P0 : EnAt (w1.alloc (.cells (enc x) 51)) w1.heap.size x ∧ RA (w1.alloc (.cells (enc x) 51)) q mb R ∧ (w1.alloc (.cells (enc x) 51)).heap[w.heap.size]? = some (.cells (hec 0 false false) 60 (0, 0)) ∧ Keep (fun j => j = q ∨ j = mb) w (w1.alloc (.cells (enc x) 51)) ∧ w.heap.size < w1.heap.size := by
    have e1 : (w.alloc (.cells (hec 0 false false) 60)).heap.size = w.heap.size + 1 := by simp
    have s1 := hb1.size
    have k1 : Keep (fun j => j = q ∨ j = mb) w w1 := (Keep.ofBelow (below1 w _)).trans (Keep.ofBelow hb1)
    exact ⟨EnAt.made _ _, ((HR.out.below (below1 w _)).below hb1).below (below1 _ _), box_below (box_below (push_at _ _ rfl) hb1) (below1 _ _), k1.trans (Keep.ofBelow (below1 _ _)), by omega⟩
  unfold enc gsv at P0
  obtain ⟨b1, Hb1⟩ : ∃ b1, Hid (w1.heap.size = b1) := ⟨_, rfl⟩
  rw [Hb1.out] at P0 ⊢
  generalize w1.alloc _ = w2 at P0 ⊢
  clear hb1
  have PP : Hid _ := P0
  have c4 := P0.1.c4
  have c5 := P0.1.c5
  have c6 := P0.1.c6
  have c7 := P0.1.c7
  clear P0
  have cA2 := cA.out w2
  go_upto_region 3 with (first
    | (go_at_call 100; refine cA2.mono ?_; clear cA2; rintro e w3 ⟨rfl, hb3⟩))
  have HI : Hid (AInv w q mb (hec 0 false false) 60 R b1 x w3.heap.size t (w3.alloc (.cells (hfc t) 49))) := by
    obtain ⟨p1, p2, p3, p4, p5⟩ := PP.out
    have l1 := p1.lt
    have l2 := hb3.size
    exact ⟨(p2.below hb3).below (below1 _ _), (p1.carry hb3).carry (below1 _ _), push_at _ _ rfl, box_below (box_below p3 hb3) (below1 _ _), (p4.trans (Keep.ofBelow hb3)).trans (Keep.ofBelow (below1 _ _)), HR.out.lt, HR.out.map.lt, by have := Hb1.out; omega, by omega⟩
  unfold hfc at HI
  clear c4 c5 c6 c7 hb3 cA
  obtain ⟨g, Hg⟩ : ∃ g, Hid (w3.heap.size = g) := ⟨_, rfl⟩
  rw [Hg.out] at HI ⊢
  generalize w3.alloc _ = wc at HI ⊢
  have hd0 := fun w => demR_no en w
  go_wp2_with (first
    | (go_at_call 69; refine (hd0 _).mono ?_; rintro e w3 ⟨rfl, hw3⟩; subst hw3))
  exact ⟨rfl, rfl, HI.out.ra, HI.out.kp⟩
set_option maxHeartbeats 3200000 in
theorem hear_2 (w : World) (q mb : Nat) (R : Ro) (h : RA w q mb R) (c : ByteArray) (hc : c.size ≤ 1000000) (mail n : Int) (x : En) (hx : ofE R c = x) (hxc : x.c.size ≤ 1000000) (t : Hf) (tl : Int) (en : Nat) (hA : hearA x.h mail n = ((t, tl), en))
    (hl : R.ks.length < 900000) (hk : 0 ≤ R.kept ∧ R.kept < 1000000) (hv : 0 ≤ R.ver ∧ R.ver < 9223372036854775807) (hen : en = 0) (hml : mail = 1) (hth : thr x = false) (hrq : decide ((R.ks.length : Int) - R.kept ≥ R.ak) = true) :
    Calls Tryz.prog 61 #[.pointer (some ⟨q, 0, none⟩), .string c, .int .i64 mail, .int .u64 n] w fun e w' => GaveV 0 (.agg (hec 0 true false)) e ∧ RA w' q mb (R) ∧ Keep (fun j => j = q ∨ j = mb) w w' := by
  have cA : Hid (∀ w, Calls Tryz.prog 100 #[.agg #[.int .i64 x.h.o, .int .u64 x.h.n, .int .i64 x.h.i, .int .u64 x.h.m], .int .i64 mail, .int .u64 n] w fun e w' => e = .returned (.tuple #[.agg #[.int .i64 t.o, .int .u64 t.n, .int .i64 t.i, .int .u64 t.m], .int .i64 tl, .int .i64 en]) ∧ Below w.heap.size w w') := by
    show ∀ w, _
    intro w
    have := Hear_any x.h mail n w
    rw [hA] at this
    exact this
  have cO := of_any (w.alloc (.cells (hec 0 false false) 60)) q mb R (h.below (below1 _ _)) c hc
  rw [hx] at cO
  have HB : Hid ((-1000000 < R.kept ∧ R.kept < 1000000) ∧ (0 ≤ R.ver ∧ R.ver < 9223372036854775807) ∧ R.ks.length < 900000 ∧ x.c.size ≤ 1000000 ∧ 0 ≤ R.kept) := ⟨⟨by omega, hk.2⟩, hv, hl, hxc, hk.1⟩
  have HR : Hid (RA w q mb R) := h
  have HEN : Hid (en = 0) := hen
  clear hen
  have HML : Hid (mail = 1) := hml
  clear hml
  have HTh : Hid (thr x = false) := hth
  clear hth
  have HRq : Hid (decide ((R.ks.length : Int) - R.kept ≥ R.ak) = true) := hrq
  clear hrq
  clear hA hx hl hk hv hxc h hc
  rw [show env x = .agg (enc x) from rfl] at cO
  go_enter Tryz.func61, Tryz.ntmps61
  unfold enc gsv at cO
  go_upto_region 2 with (first
    | (go_at_call 92; refine cO.mono ?_; clear cO; rintro e w1 ⟨rfl, hb1⟩))
  have P0 : EnAt (w1.alloc (.cells (enc x) 51)) w1.heap.size x ∧ RA (w1.alloc (.cells (enc x) 51)) q mb R ∧ (w1.alloc (.cells (enc x) 51)).heap[w.heap.size]? = some (.cells (hec 0 false false) 60 (0, 0)) ∧ Keep (fun j => j = q ∨ j = mb) w (w1.alloc (.cells (enc x) 51)) ∧ w.heap.size < w1.heap.size := by
    have e1 : (w.alloc (.cells (hec 0 false false) 60)).heap.size = w.heap.size + 1 := by simp
    have s1 := hb1.size
    have k1 : Keep (fun j => j = q ∨ j = mb) w w1 := (Keep.ofBelow (below1 w _)).trans (Keep.ofBelow hb1)
    exact ⟨EnAt.made _ _, ((HR.out.below (below1 w _)).below hb1).below (below1 _ _), box_below (box_below (push_at _ _ rfl) hb1) (below1 _ _), k1.trans (Keep.ofBelow (below1 _ _)), by omega⟩
  unfold enc gsv at P0
  obtain ⟨b1, Hb1⟩ : ∃ b1, Hid (w1.heap.size = b1) := ⟨_, rfl⟩
  rw [Hb1.out] at P0 ⊢
  generalize w1.alloc _ = w2 at P0 ⊢
  clear hb1
  have PP : Hid _ := P0
  have c4 := P0.1.c4
  have c5 := P0.1.c5
  have c6 := P0.1.c6
  have c7 := P0.1.c7
  clear P0
  have cA2 := cA.out w2
  go_upto_region 3 with (first
    | (go_at_call 100; refine cA2.mono ?_; clear cA2; rintro e w3 ⟨rfl, hb3⟩))
  have HI : Hid (AInv w q mb (hec 0 false false) 60 R b1 x w3.heap.size t (w3.alloc (.cells (hfc t) 49))) := by
    obtain ⟨p1, p2, p3, p4, p5⟩ := PP.out
    have l1 := p1.lt
    have l2 := hb3.size
    exact ⟨(p2.below hb3).below (below1 _ _), (p1.carry hb3).carry (below1 _ _), push_at _ _ rfl, box_below (box_below p3 hb3) (below1 _ _), (p4.trans (Keep.ofBelow hb3)).trans (Keep.ofBelow (below1 _ _)), HR.out.lt, HR.out.map.lt, by have := Hb1.out; omega, by omega⟩
  unfold hfc at HI
  clear c4 c5 c6 c7 hb3 cA
  obtain ⟨g, Hg⟩ : ∃ g, Hid (w3.heap.size = g) := ⟨_, rfl⟩
  rw [Hg.out] at HI ⊢
  generalize w3.alloc _ = wc at HI ⊢
  have hml := HML.out
  subst hml
  have hen := HEN.out
  subst hen
  have hd1 := fun w => demR_ok 0 w
  go_upto_region 4 with (first
    | (go_at_call 69; refine (hd1 _).mono ?_; rintro e w3 ⟨rfl, hw3⟩; replace hw3 := hw3.symm; subst hw3))
  refine wp_region_lx (fun w' => AInv w q mb (hec 0 false false) 60 R b1 x g t w') [] 16 (by kernel_rfl) (by kernel_rfl) ?_
  have HS0 : AInv w q mb (hec 0 false false) 60 R b1 x g t wc.drew := HI.out.below (Below.refl _ _).drew
  generalize wc.drew = W at HS0 ⊢
  refine lx_r 0 (.int .i64 1) HS0 ?_; simp only [lxa, lxb, lxc]
  refine lx_r 1 (.bool true) HS0 ?_; simp only [lxa, lxb, lxc]
  refine lx_r 2 (.bool true) HS0 ?_; simp only [lxa, lxb, lxc]
  refine lx_r 3 (env x) HS0 ?_ (hv := fun w' hS => by exact exec_load_en (.tmp 9) rfl b1 rfl x hS.en); simp only [lxa, lxb, lxc]
  refine lx_one 4 (by kernel_rfl) (stepT_call 101 ?c4 rfl rfl rfl ?d4 ?_)
  case d4 => first | (go_simp; rfl) | go_simp
  refine (isThere_any x W).mono ?_
  rintro e w5 ⟨rfl, hb5⟩
  have HS1 := HS0.below hb5
  refine ⟨_, rfl, fun _ => HS1, ?_⟩
  rw [HTh.out]
  simp only [lxa, lxb, lxc]
  refine lx_r 5 (.bool true) HS1 ?_; simp only [lxa, lxb, lxc]
  refine lx_r 6 (.bool true) HS1 ?_; simp only [lxa, lxb, lxc]
  refine lx_r 7 (.bool true) HS1 ?_; simp only [lxa, lxb, lxc]
  refine lx_r 8 (.pointer (some ⟨q, 0, none⟩)) HS1 ?_; simp only [lxa, lxb, lxc]
  refine lx_r 10 (.pointer (some ⟨q, 0, none⟩)) HS1 ?_; simp only [lxa, lxb, lxc]
  refine lx_r 11 (.pointer (some ⟨q, 0, none⟩)) HS1 ?_; simp only [lxa, lxb, lxc]
  refine lx_r 12 (.pointer (some ⟨q, 1, none⟩)) HS1 ?_; simp only [lxa, lxb, lxc]
  refine lx_r 13 (.int .i64 R.ak) HS1 ?_ (hv := fun w' hS => by have p := hS.ra.c1; first | (go_simp; rfl) | go_simp); simp only [lxa, lxb, lxc]
  refine lx_one 9 (by kernel_rfl) (stepT_call 82 ?c9 rfl rfl rfl ?d9 ?_)
  case d9 => first | (go_simp; rfl) | go_simp
  refine (reqs_any w5 q mb R HS1.ra (by have := HB.out.2.2.1; omega) HB.out.2.2.2.2 (by have := HB.out.1; omega)).mono ?_
  rintro e w6 ⟨rfl, hb6⟩
  have HS2 := HS1.below hb6
  refine ⟨_, rfl, fun _ => HS2, ?_⟩
  simp only [lxa, lxb, lxc]
  refine lx_r 14 (.bool true) HS2 ?_ (hv := fun w' hS => by have p := HRq.out; first | (go_simp; rfl) | go_simp); simp only [lxa, lxb, lxc]
  refine lx_r 15 (.bool true) HS2 ?_; simp only [lxa, lxb, lxc]
  refine lx_nil (by kernel_rfl) ?_
  have HI2 : Hid (AInv w q mb (hec 0 false false) 60 R b1 x g t w6) := HS2
  clear HS0 HS1 HS2
  go_wp2_with (first
    | (refine wpList_store_row rfl 60 (.tmp 8) (.tmp 45) rfl w.heap.size (hec 0 true false) rfl rfl 60 _ HI2.out.ac (by rw [infoHeard]; rfl) (by rfl) (hec_one _ _ _) ?_))
  obtain ⟨a1, a2, a3⟩ := HI2.out.answer (hec 0 true false)
  have hld := run_loadVar_row _ w.heap.size 60 60 _ (0, 0) _ a2 Tryz.underlying60 rfl (by rw [infoHeard]; rfl)
  first | exact bodyPost_ret (res_row rfl _ _ _ _ rfl hld) rfl ⟨gv_ok rfl, a1, a3⟩ | exact bodyPost_end (res_row rfl _ _ _ _ rfl hld) rfl ⟨gv_ok rfl, a1, a3⟩
set_option maxHeartbeats 3200000 in
theorem hear_3 (w : World) (q mb : Nat) (R : Ro) (h : RA w q mb R) (c : ByteArray) (hc : c.size ≤ 1000000) (mail n : Int) (x : En) (hx : ofE R c = x) (hxc : x.c.size ≤ 1000000) (t : Hf) (tl : Int) (en : Nat) (hA : hearA x.h mail n = ((t, tl), en))
    (hl : R.ks.length < 900000) (hk : 0 ≤ R.kept ∧ R.kept < 1000000) (hv : 0 ≤ R.ver ∧ R.ver < 9223372036854775807) (hen : en = 0) (hml : mail = 1) (hth : thr x = false) (hrq : decide ((R.ks.length : Int) - R.kept ≥ R.ak) = false) :
    Calls Tryz.prog 61 #[.pointer (some ⟨q, 0, none⟩), .string c, .int .i64 mail, .int .u64 n] w fun e w' => GaveV 0 (.agg (hec tl false (chg x t))) e ∧ RA w' q mb (turnR R x t) ∧ Keep (fun j => j = q ∨ j = mb) w w' := by
  have cA : Hid (∀ w, Calls Tryz.prog 100 #[.agg #[.int .i64 x.h.o, .int .u64 x.h.n, .int .i64 x.h.i, .int .u64 x.h.m], .int .i64 mail, .int .u64 n] w fun e w' => e = .returned (.tuple #[.agg #[.int .i64 t.o, .int .u64 t.n, .int .i64 t.i, .int .u64 t.m], .int .i64 tl, .int .i64 en]) ∧ Below w.heap.size w w') := by
    show ∀ w, _
    intro w
    have := Hear_any x.h mail n w
    rw [hA] at this
    exact this
  have cO := of_any (w.alloc (.cells (hec 0 false false) 60)) q mb R (h.below (below1 _ _)) c hc
  rw [hx] at cO
  have HB : Hid ((-1000000 < R.kept ∧ R.kept < 1000000) ∧ (0 ≤ R.ver ∧ R.ver < 9223372036854775807) ∧ R.ks.length < 900000 ∧ x.c.size ≤ 1000000 ∧ 0 ≤ R.kept) := ⟨⟨by omega, hk.2⟩, hv, hl, hxc, hk.1⟩
  have HR : Hid (RA w q mb R) := h
  have HEN : Hid (en = 0) := hen
  clear hen
  have HML : Hid (mail = 1) := hml
  clear hml
  have HTh : Hid (thr x = false) := hth
  clear hth
  have HRq : Hid (decide ((R.ks.length : Int) - R.kept ≥ R.ak) = false) := hrq
  clear hrq
  clear hA hx hl hk hv hxc h hc
  rw [show env x = .agg (enc x) from rfl] at cO
  go_enter Tryz.func61, Tryz.ntmps61
  unfold enc gsv at cO
  go_upto_region 2 with (first
    | (go_at_call 92; refine cO.mono ?_; clear cO; rintro e w1 ⟨rfl, hb1⟩))
  have P0 : EnAt (w1.alloc (.cells (enc x) 51)) w1.heap.size x ∧ RA (w1.alloc (.cells (enc x) 51)) q mb R ∧ (w1.alloc (.cells (enc x) 51)).heap[w.heap.size]? = some (.cells (hec 0 false false) 60 (0, 0)) ∧ Keep (fun j => j = q ∨ j = mb) w (w1.alloc (.cells (enc x) 51)) ∧ w.heap.size < w1.heap.size := by
    have e1 : (w.alloc (.cells (hec 0 false false) 60)).heap.size = w.heap.size + 1 := by simp
    have s1 := hb1.size
    have k1 : Keep (fun j => j = q ∨ j = mb) w w1 := (Keep.ofBelow (below1 w _)).trans (Keep.ofBelow hb1)
    exact ⟨EnAt.made _ _, ((HR.out.below (below1 w _)).below hb1).below (below1 _ _), box_below (box_below (push_at _ _ rfl) hb1) (below1 _ _), k1.trans (Keep.ofBelow (below1 _ _)), by omega⟩
  unfold enc gsv at P0
  obtain ⟨b1, Hb1⟩ : ∃ b1, Hid (w1.heap.size = b1) := ⟨_, rfl⟩
  rw [Hb1.out] at P0 ⊢
  generalize w1.alloc _ = w2 at P0 ⊢
  clear hb1
  have PP : Hid _ := P0
  have c4 := P0.1.c4
  have c5 := P0.1.c5
  have c6 := P0.1.c6
  have c7 := P0.1.c7
  clear P0
  have cA2 := cA.out w2
  go_upto_region 3 with (first
    | (go_at_call 100; refine cA2.mono ?_; clear cA2; rintro e w3 ⟨rfl, hb3⟩))
  have HI : Hid (AInv w q mb (hec 0 false false) 60 R b1 x w3.heap.size t (w3.alloc (.cells (hfc t) 49))) := by
    obtain ⟨p1, p2, p3, p4, p5⟩ := PP.out
    have l1 := p1.lt
    have l2 := hb3.size
    exact ⟨(p2.below hb3).below (below1 _ _), (p1.carry hb3).carry (below1 _ _), push_at _ _ rfl, box_below (box_below p3 hb3) (below1 _ _), (p4.trans (Keep.ofBelow hb3)).trans (Keep.ofBelow (below1 _ _)), HR.out.lt, HR.out.map.lt, by have := Hb1.out; omega, by omega⟩
  unfold hfc at HI
  clear c4 c5 c6 c7 hb3 cA
  obtain ⟨g, Hg⟩ : ∃ g, Hid (w3.heap.size = g) := ⟨_, rfl⟩
  rw [Hg.out] at HI ⊢
  generalize w3.alloc _ = wc at HI ⊢
  have hml := HML.out
  subst hml
  have hen := HEN.out
  subst hen
  have hd1 := fun w => demR_ok 0 w
  go_upto_region 4 with (first
    | (go_at_call 69; refine (hd1 _).mono ?_; rintro e w3 ⟨rfl, hw3⟩; replace hw3 := hw3.symm; subst hw3))
  refine wp_region_lx (fun w' => AInv w q mb (hec 0 false false) 60 R b1 x g t w') [] 16 (by kernel_rfl) (by kernel_rfl) ?_
  have HS0 : AInv w q mb (hec 0 false false) 60 R b1 x g t wc.drew := HI.out.below (Below.refl _ _).drew
  generalize wc.drew = W at HS0 ⊢
  refine lx_r 0 (.int .i64 1) HS0 ?_; simp only [lxa, lxb, lxc]
  refine lx_r 1 (.bool true) HS0 ?_; simp only [lxa, lxb, lxc]
  refine lx_r 2 (.bool true) HS0 ?_; simp only [lxa, lxb, lxc]
  refine lx_r 3 (env x) HS0 ?_ (hv := fun w' hS => by exact exec_load_en (.tmp 9) rfl b1 rfl x hS.en); simp only [lxa, lxb, lxc]
  refine lx_one 4 (by kernel_rfl) (stepT_call 101 ?c4 rfl rfl rfl ?d4 ?_)
  case d4 => first | (go_simp; rfl) | go_simp
  refine (isThere_any x W).mono ?_
  rintro e w5 ⟨rfl, hb5⟩
  have HS1 := HS0.below hb5
  refine ⟨_, rfl, fun _ => HS1, ?_⟩
  rw [HTh.out]
  simp only [lxa, lxb, lxc]
  refine lx_r 5 (.bool true) HS1 ?_; simp only [lxa, lxb, lxc]
  refine lx_r 6 (.bool true) HS1 ?_; simp only [lxa, lxb, lxc]
  refine lx_r 7 (.bool true) HS1 ?_; simp only [lxa, lxb, lxc]
  refine lx_r 8 (.pointer (some ⟨q, 0, none⟩)) HS1 ?_; simp only [lxa, lxb, lxc]
  refine lx_r 10 (.pointer (some ⟨q, 0, none⟩)) HS1 ?_; simp only [lxa, lxb, lxc]
  refine lx_r 11 (.pointer (some ⟨q, 0, none⟩)) HS1 ?_; simp only [lxa, lxb, lxc]
  refine lx_r 12 (.pointer (some ⟨q, 1, none⟩)) HS1 ?_; simp only [lxa, lxb, lxc]
  refine lx_r 13 (.int .i64 R.ak) HS1 ?_ (hv := fun w' hS => by have p := hS.ra.c1; first | (go_simp; rfl) | go_simp); simp only [lxa, lxb, lxc]
  refine lx_one 9 (by kernel_rfl) (stepT_call 82 ?c9 rfl rfl rfl ?d9 ?_)
  case d9 => first | (go_simp; rfl) | go_simp
  refine (reqs_any w5 q mb R HS1.ra (by have := HB.out.2.2.1; omega) HB.out.2.2.2.2 (by have := HB.out.1; omega)).mono ?_
  rintro e w6 ⟨rfl, hb6⟩
  have HS2 := HS1.below hb6
  refine ⟨_, rfl, fun _ => HS2, ?_⟩
  simp only [lxa, lxb, lxc]
  refine lx_r 14 (.bool false) HS2 ?_ (hv := fun w' hS => by have p := HRq.out; first | (go_simp; rfl) | go_simp); simp only [lxa, lxb, lxc]
  refine lx_r 15 (.bool false) HS2 ?_; simp only [lxa, lxb, lxc]
  refine lx_nil (by kernel_rfl) ?_
  have HI2 : Hid (AInv w q mb (hec 0 false false) 60 R b1 x g t w6) := HS2
  clear HS0 HS1 HS2
  have hT := turn_any w6 q mb R HI2.out.ra x t HB.out.2.2.2.1 HB.out.2.2.1 HB.out.1 HB.out.2.1
  go_wp2_with (first
    | (refine wp_load_en rfl (.tmp 9) rfl b1 rfl x HI2.out.en ?_)
    | (refine wp_load_half rfl (.tmp 10) rfl g rfl t HI2.out.hf ?_)
    | (go_at_call 98; refine hT.mono ?_; clear hT; rintro e w6 ⟨rfl, hr6, hk6⟩; have HI4 : Hid (AInv w q mb (hec 0 false false) 60 (turnR R x t) b1 x g t w6) := HI2.out.turned hr6 hk6)
    | (refine wpList_store_row rfl 60 (.tmp 8) (.tmp 51) rfl w.heap.size (hec tl false (chg x t)) rfl rfl 60 _ HI4.out.ac (by rw [infoHeard]; rfl) (by rfl) (hec_one _ _ _) ?_))
  obtain ⟨a1, a2, a3⟩ := HI4.out.answer (hec tl false (chg x t))
  have hld := run_loadVar_row _ w.heap.size 60 60 _ (0, 0) _ a2 Tryz.underlying60 rfl (by rw [infoHeard]; rfl)
  first | exact bodyPost_ret (res_row rfl _ _ _ _ rfl hld) rfl ⟨gv_ok rfl, a1, a3⟩ | exact bodyPost_end (res_row rfl _ _ _ _ rfl hld) rfl ⟨gv_ok rfl, a1, a3⟩
set_option maxHeartbeats 3200000 in
theorem hear_4 (w : World) (q mb : Nat) (R : Ro) (h : RA w q mb R) (c : ByteArray) (hc : c.size ≤ 1000000) (mail n : Int) (x : En) (hx : ofE R c = x) (hxc : x.c.size ≤ 1000000) (t : Hf) (tl : Int) (en : Nat) (hA : hearA x.h mail n = ((t, tl), en))
    (hl : R.ks.length < 900000) (hk : 0 ≤ R.kept ∧ R.kept < 1000000) (hv : 0 ≤ R.ver ∧ R.ver < 9223372036854775807) (hen : en = 0) (hml : mail = 1) (hth : thr x = true) :
    Calls Tryz.prog 61 #[.pointer (some ⟨q, 0, none⟩), .string c, .int .i64 mail, .int .u64 n] w fun e w' => GaveV 0 (.agg (hec tl false (chg x t))) e ∧ RA w' q mb (turnR R x t) ∧ Keep (fun j => j = q ∨ j = mb) w w' := by
  have cA : Hid (∀ w, Calls Tryz.prog 100 #[.agg #[.int .i64 x.h.o, .int .u64 x.h.n, .int .i64 x.h.i, .int .u64 x.h.m], .int .i64 mail, .int .u64 n] w fun e w' => e = .returned (.tuple #[.agg #[.int .i64 t.o, .int .u64 t.n, .int .i64 t.i, .int .u64 t.m], .int .i64 tl, .int .i64 en]) ∧ Below w.heap.size w w') := by
    show ∀ w, _
    intro w
    have := Hear_any x.h mail n w
    rw [hA] at this
    exact this
  have cO := of_any (w.alloc (.cells (hec 0 false false) 60)) q mb R (h.below (below1 _ _)) c hc
  rw [hx] at cO
  have HB : Hid ((-1000000 < R.kept ∧ R.kept < 1000000) ∧ (0 ≤ R.ver ∧ R.ver < 9223372036854775807) ∧ R.ks.length < 900000 ∧ x.c.size ≤ 1000000 ∧ 0 ≤ R.kept) := ⟨⟨by omega, hk.2⟩, hv, hl, hxc, hk.1⟩
  have HR : Hid (RA w q mb R) := h
  have HEN : Hid (en = 0) := hen
  clear hen
  have HML : Hid (mail = 1) := hml
  clear hml
  have HTh : Hid (thr x = true) := hth
  clear hth
  clear hA hx hl hk hv hxc h hc
  rw [show env x = .agg (enc x) from rfl] at cO
  go_enter Tryz.func61, Tryz.ntmps61
  unfold enc gsv at cO
  go_upto_region 2 with (first
    | (go_at_call 92; refine cO.mono ?_; clear cO; rintro e w1 ⟨rfl, hb1⟩))
  have P0 : EnAt (w1.alloc (.cells (enc x) 51)) w1.heap.size x ∧ RA (w1.alloc (.cells (enc x) 51)) q mb R ∧ (w1.alloc (.cells (enc x) 51)).heap[w.heap.size]? = some (.cells (hec 0 false false) 60 (0, 0)) ∧ Keep (fun j => j = q ∨ j = mb) w (w1.alloc (.cells (enc x) 51)) ∧ w.heap.size < w1.heap.size := by
    have e1 : (w.alloc (.cells (hec 0 false false) 60)).heap.size = w.heap.size + 1 := by simp
    have s1 := hb1.size
    have k1 : Keep (fun j => j = q ∨ j = mb) w w1 := (Keep.ofBelow (below1 w _)).trans (Keep.ofBelow hb1)
    exact ⟨EnAt.made _ _, ((HR.out.below (below1 w _)).below hb1).below (below1 _ _), box_below (box_below (push_at _ _ rfl) hb1) (below1 _ _), k1.trans (Keep.ofBelow (below1 _ _)), by omega⟩
  unfold enc gsv at P0
  obtain ⟨b1, Hb1⟩ : ∃ b1, Hid (w1.heap.size = b1) := ⟨_, rfl⟩
  rw [Hb1.out] at P0 ⊢
  generalize w1.alloc _ = w2 at P0 ⊢
  clear hb1
  have PP : Hid _ := P0
  have c4 := P0.1.c4
  have c5 := P0.1.c5
  have c6 := P0.1.c6
  have c7 := P0.1.c7
  clear P0
  have cA2 := cA.out w2
  go_upto_region 3 with (first
    | (go_at_call 100; refine cA2.mono ?_; clear cA2; rintro e w3 ⟨rfl, hb3⟩))
  have HI : Hid (AInv w q mb (hec 0 false false) 60 R b1 x w3.heap.size t (w3.alloc (.cells (hfc t) 49))) := by
    obtain ⟨p1, p2, p3, p4, p5⟩ := PP.out
    have l1 := p1.lt
    have l2 := hb3.size
    exact ⟨(p2.below hb3).below (below1 _ _), (p1.carry hb3).carry (below1 _ _), push_at _ _ rfl, box_below (box_below p3 hb3) (below1 _ _), (p4.trans (Keep.ofBelow hb3)).trans (Keep.ofBelow (below1 _ _)), HR.out.lt, HR.out.map.lt, by have := Hb1.out; omega, by omega⟩
  unfold hfc at HI
  clear c4 c5 c6 c7 hb3 cA
  obtain ⟨g, Hg⟩ : ∃ g, Hid (w3.heap.size = g) := ⟨_, rfl⟩
  rw [Hg.out] at HI ⊢
  generalize w3.alloc _ = wc at HI ⊢
  have hml := HML.out
  subst hml
  have hen := HEN.out
  subst hen
  have hd1 := fun w => demR_ok 0 w
  go_upto_region 4 with (first
    | (go_at_call 69; refine (hd1 _).mono ?_; rintro e w3 ⟨rfl, hw3⟩; replace hw3 := hw3.symm; subst hw3))
  refine wp_region_lx (fun w' => AInv w q mb (hec 0 false false) 60 R b1 x g t w') [] 16 (by kernel_rfl) (by kernel_rfl) ?_
  have HS0 : AInv w q mb (hec 0 false false) 60 R b1 x g t wc.drew := HI.out.below (Below.refl _ _).drew
  generalize wc.drew = W at HS0 ⊢
  refine lx_r 0 (.int .i64 1) HS0 ?_; simp only [lxa, lxb, lxc]
  refine lx_r 1 (.bool true) HS0 ?_; simp only [lxa, lxb, lxc]
  refine lx_r 2 (.bool true) HS0 ?_; simp only [lxa, lxb, lxc]
  refine lx_r 3 (env x) HS0 ?_ (hv := fun w' hS => by exact exec_load_en (.tmp 9) rfl b1 rfl x hS.en); simp only [lxa, lxb, lxc]
  refine lx_one 4 (by kernel_rfl) (stepT_call 101 ?c4 rfl rfl rfl ?d4 ?_)
  case d4 => first | (go_simp; rfl) | go_simp
  refine (isThere_any x W).mono ?_
  rintro e w5 ⟨rfl, hb5⟩
  have HS1 := HS0.below hb5
  refine ⟨_, rfl, fun _ => HS1, ?_⟩
  rw [HTh.out]
  simp only [lxa, lxb, lxc]
  refine lx_r 5 (.bool false) HS1 ?_; simp only [lxa, lxb, lxc]
  refine lx_r 6 (.bool false) HS1 ?_; simp only [lxa, lxb, lxc]
  refine lx_r 7 (.bool false) HS1 ?_; simp only [lxa, lxb, lxc]
  refine lx_s 8 HS1 ?_; simp only [lxa, lxb, lxc]
  refine lx_s 9 HS1 ?_; simp only [lxa, lxb, lxc]
  refine lx_s 10 HS1 ?_; simp only [lxa, lxb, lxc]
  refine lx_s 11 HS1 ?_; simp only [lxa, lxb, lxc]
  refine lx_s 12 HS1 ?_; simp only [lxa, lxb, lxc]
  refine lx_s 13 HS1 ?_; simp only [lxa, lxb, lxc]
  refine lx_s 14 HS1 ?_; simp only [lxa, lxb, lxc]
  refine lx_r 15 (.bool false) HS1 ?_; simp only [lxa, lxb, lxc]
  refine lx_nil (by kernel_rfl) ?_
  have HI2 : Hid (AInv w q mb (hec 0 false false) 60 R b1 x g t w5) := HS1
  clear HS0 HS1
  have hT := turn_any w5 q mb R HI2.out.ra x t HB.out.2.2.2.1 HB.out.2.2.1 HB.out.1 HB.out.2.1
  go_wp2_with (first
    | (refine wp_load_en rfl (.tmp 9) rfl b1 rfl x HI2.out.en ?_)
    | (refine wp_load_half rfl (.tmp 10) rfl g rfl t HI2.out.hf ?_)
    | (go_at_call 98; refine hT.mono ?_; clear hT; rintro e w6 ⟨rfl, hr6, hk6⟩; have HI4 : Hid (AInv w q mb (hec 0 false false) 60 (turnR R x t) b1 x g t w6) := HI2.out.turned hr6 hk6)
    | (refine wpList_store_row rfl 60 (.tmp 8) (.tmp 51) rfl w.heap.size (hec tl false (chg x t)) rfl rfl 60 _ HI4.out.ac (by rw [infoHeard]; rfl) (by rfl) (hec_one _ _ _) ?_))
  obtain ⟨a1, a2, a3⟩ := HI4.out.answer (hec tl false (chg x t))
  have hld := run_loadVar_row _ w.heap.size 60 60 _ (0, 0) _ a2 Tryz.underlying60 rfl (by rw [infoHeard]; rfl)
  first | exact bodyPost_ret (res_row rfl _ _ _ _ rfl hld) rfl ⟨gv_ok rfl, a1, a3⟩ | exact bodyPost_end (res_row rfl _ _ _ _ rfl hld) rfl ⟨gv_ok rfl, a1, a3⟩
set_option maxHeartbeats 3200000 in
theorem hear_5 (w : World) (q mb : Nat) (R : Ro) (h : RA w q mb R) (c : ByteArray) (hc : c.size ≤ 1000000) (mail n : Int) (x : En) (hx : ofE R c = x) (hxc : x.c.size ≤ 1000000) (t : Hf) (tl : Int) (en : Nat) (hA : hearA x.h mail n = ((t, tl), en))
    (hl : R.ks.length < 900000) (hk : 0 ≤ R.kept ∧ R.kept < 1000000) (hv : 0 ≤ R.ver ∧ R.ver < 9223372036854775807) (hen : en = 0) (hml : mail ≠ 1) :
    Calls Tryz.prog 61 #[.pointer (some ⟨q, 0, none⟩), .string c, .int .i64 mail, .int .u64 n] w fun e w' => GaveV 0 (.agg (hec tl false (chg x t))) e ∧ RA w' q mb (turnR R x t) ∧ Keep (fun j => j = q ∨ j = mb) w w' := by
  have cA : Hid (∀ w, Calls Tryz.prog 100 #[.agg #[.int .i64 x.h.o, .int .u64 x.h.n, .int .i64 x.h.i, .int .u64 x.h.m], .int .i64 mail, .int .u64 n] w fun e w' => e = .returned (.tuple #[.agg #[.int .i64 t.o, .int .u64 t.n, .int .i64 t.i, .int .u64 t.m], .int .i64 tl, .int .i64 en]) ∧ Below w.heap.size w w') := by
    show ∀ w, _
    intro w
    have := Hear_any x.h mail n w
    rw [hA] at this
    exact this
  have cO := of_any (w.alloc (.cells (hec 0 false false) 60)) q mb R (h.below (below1 _ _)) c hc
  rw [hx] at cO
  have HB : Hid ((-1000000 < R.kept ∧ R.kept < 1000000) ∧ (0 ≤ R.ver ∧ R.ver < 9223372036854775807) ∧ R.ks.length < 900000 ∧ x.c.size ≤ 1000000 ∧ 0 ≤ R.kept) := ⟨⟨by omega, hk.2⟩, hv, hl, hxc, hk.1⟩
  have HR : Hid (RA w q mb R) := h
  have HEN : Hid (en = 0) := hen
  clear hen
  have zm : (mail == 1) = false := by rw [beq_eq_false_iff_ne]; exact hml
  have HML : Hid (mail ≠ 1) := hml
  clear hml
  clear hA hx hl hk hv hxc h hc
  rw [show env x = .agg (enc x) from rfl] at cO
  go_enter Tryz.func61, Tryz.ntmps61
  unfold enc gsv at cO
  go_upto_region 2 with (first
    | (go_at_call 92; refine cO.mono ?_; clear cO; rintro e w1 ⟨rfl, hb1⟩))
  have P0 : EnAt (w1.alloc (.cells (enc x) 51)) w1.heap.size x ∧ RA (w1.alloc (.cells (enc x) 51)) q mb R ∧ (w1.alloc (.cells (enc x) 51)).heap[w.heap.size]? = some (.cells (hec 0 false false) 60 (0, 0)) ∧ Keep (fun j => j = q ∨ j = mb) w (w1.alloc (.cells (enc x) 51)) ∧ w.heap.size < w1.heap.size := by
    have e1 : (w.alloc (.cells (hec 0 false false) 60)).heap.size = w.heap.size + 1 := by simp
    have s1 := hb1.size
    have k1 : Keep (fun j => j = q ∨ j = mb) w w1 := (Keep.ofBelow (below1 w _)).trans (Keep.ofBelow hb1)
    exact ⟨EnAt.made _ _, ((HR.out.below (below1 w _)).below hb1).below (below1 _ _), box_below (box_below (push_at _ _ rfl) hb1) (below1 _ _), k1.trans (Keep.ofBelow (below1 _ _)), by omega⟩
  unfold enc gsv at P0
  obtain ⟨b1, Hb1⟩ : ∃ b1, Hid (w1.heap.size = b1) := ⟨_, rfl⟩
  rw [Hb1.out] at P0 ⊢
  generalize w1.alloc _ = w2 at P0 ⊢
  clear hb1
  have PP : Hid _ := P0
  have c4 := P0.1.c4
  have c5 := P0.1.c5
  have c6 := P0.1.c6
  have c7 := P0.1.c7
  clear P0
  have cA2 := cA.out w2
  go_upto_region 3 with (first
    | (go_at_call 100; refine cA2.mono ?_; clear cA2; rintro e w3 ⟨rfl, hb3⟩))
  have HI : Hid (AInv w q mb (hec 0 false false) 60 R b1 x w3.heap.size t (w3.alloc (.cells (hfc t) 49))) := by
    obtain ⟨p1, p2, p3, p4, p5⟩ := PP.out
    have l1 := p1.lt
    have l2 := hb3.size
    exact ⟨(p2.below hb3).below (below1 _ _), (p1.carry hb3).carry (below1 _ _), push_at _ _ rfl, box_below (box_below p3 hb3) (below1 _ _), (p4.trans (Keep.ofBelow hb3)).trans (Keep.ofBelow (below1 _ _)), HR.out.lt, HR.out.map.lt, by have := Hb1.out; omega, by omega⟩
  unfold hfc at HI
  clear c4 c5 c6 c7 hb3 cA
  obtain ⟨g, Hg⟩ : ∃ g, Hid (w3.heap.size = g) := ⟨_, rfl⟩
  rw [Hg.out] at HI ⊢
  generalize w3.alloc _ = wc at HI ⊢
  have hen := HEN.out
  subst hen
  have hd1 := fun w => demR_ok 0 w
  go_upto_region 4 with (first
    | (go_at_call 69; refine (hd1 _).mono ?_; rintro e w3 ⟨rfl, hw3⟩; replace hw3 := hw3.symm; subst hw3))
  refine wp_region_lx (fun w' => AInv w q mb (hec 0 false false) 60 R b1 x g t w') [] 16 (by kernel_rfl) (by kernel_rfl) ?_
  have HS0 : AInv w q mb (hec 0 false false) 60 R b1 x g t wc.drew := HI.out.below (Below.refl _ _).drew
  generalize wc.drew = W at HS0 ⊢
  refine lx_r 0 (.int .i64 mail) HS0 ?_; simp only [lxa, lxb, lxc]
  refine lx_r 1 (.bool false) HS0 ?_ (hv := fun w' hS => by have p := zm; first | (go_simp; rfl) | go_simp); simp only [lxa, lxb, lxc]
  refine lx_r 2 (.bool false) HS0 ?_; simp only [lxa, lxb, lxc]
  refine lx_s 3 HS0 ?_; simp only [lxa, lxb, lxc]
  refine lx_s 4 HS0 ?_; simp only [lxa, lxb, lxc]
  refine lx_s 5 HS0 ?_; simp only [lxa, lxb, lxc]
  refine lx_r 6 (.bool false) HS0 ?_; simp only [lxa, lxb, lxc]
  refine lx_r 7 (.bool false) HS0 ?_; simp only [lxa, lxb, lxc]
  refine lx_s 8 HS0 ?_; simp only [lxa, lxb, lxc]
  refine lx_s 9 HS0 ?_; simp only [lxa, lxb, lxc]
  refine lx_s 10 HS0 ?_; simp only [lxa, lxb, lxc]
  refine lx_s 11 HS0 ?_; simp only [lxa, lxb, lxc]
  refine lx_s 12 HS0 ?_; simp only [lxa, lxb, lxc]
  refine lx_s 13 HS0 ?_; simp only [lxa, lxb, lxc]
  refine lx_s 14 HS0 ?_; simp only [lxa, lxb, lxc]
  refine lx_r 15 (.bool false) HS0 ?_; simp only [lxa, lxb, lxc]
  refine lx_nil (by kernel_rfl) ?_
  have HI2 : Hid (AInv w q mb (hec 0 false false) 60 R b1 x g t W) := HS0
  clear HS0
  have hT := turn_any W q mb R HI2.out.ra x t HB.out.2.2.2.1 HB.out.2.2.1 HB.out.1 HB.out.2.1
  go_wp2_with (first
    | (refine wp_load_en rfl (.tmp 9) rfl b1 rfl x HI2.out.en ?_)
    | (refine wp_load_half rfl (.tmp 10) rfl g rfl t HI2.out.hf ?_)
    | (go_at_call 98; refine hT.mono ?_; clear hT; rintro e w6 ⟨rfl, hr6, hk6⟩; have HI4 : Hid (AInv w q mb (hec 0 false false) 60 (turnR R x t) b1 x g t w6) := HI2.out.turned hr6 hk6)
    | (refine wpList_store_row rfl 60 (.tmp 8) (.tmp 51) rfl w.heap.size (hec tl false (chg x t)) rfl rfl 60 _ HI4.out.ac (by rw [infoHeard]; rfl) (by rfl) (hec_one _ _ _) ?_))
  obtain ⟨a1, a2, a3⟩ := HI4.out.answer (hec tl false (chg x t))
  have hld := run_loadVar_row _ w.heap.size 60 60 _ (0, 0) _ a2 Tryz.underlying60 rfl (by rw [infoHeard]; rfl)
  first | exact bodyPost_ret (res_row rfl _ _ _ _ rfl hld) rfl ⟨gv_ok rfl, a1, a3⟩ | exact bodyPost_end (res_row rfl _ _ _ _ rfl hld) rfl ⟨gv_ok rfl, a1, a3⟩
end Go.Proofs.YtppdopcghnfapaaGreatDoor

/- roster: act and hear whatever the way (pure), Act's and Hear's closures. -/
set_option maxRecDepth 100000
namespace Go.Proofs.YtppdopcghnfapaaGreatDoor
open Go.RowKit Go.Joins

/-- What a roster's act answers, its error, and the roster behind it. -/
def actP (R : Ro) (c : ByteArray) (kind : Int) : (Int × Int × Bool) × Nat × Ro :=
  if (actA (ofE R c).h kind (R.nx + 1)).2 ≠ 0 then ((0, 0, false), (actA (ofE R c).h kind (R.nx + 1)).2, R)
  else if (actA (ofE R c).h kind (R.nx + 1)).1.2.1 = 0 then ((0, 0, false), 0, R)
  else if kind = 11 then
    if roomB R (ofE R c) = true then (((actA (ofE R c).h kind (R.nx + 1)).1.2.1, (actA (ofE R c).h kind (R.nx + 1)).1.2.2, chg { ofE R c with k := true } (actA (ofE R c).h kind (R.nx + 1)).1.1), 0, turnR { R with nx := R.nx + 1 } { ofE R c with k := true } (actA (ofE R c).h kind (R.nx + 1)).1.1)
    else ((0, 0, false), 8, R)
  else if kind = 12 then
    if roomB R (ofE R c) = true then (((actA (ofE R c).h kind (R.nx + 1)).1.2.1, (actA (ofE R c).h kind (R.nx + 1)).1.2.2, chg { ofE R c with k := true } (actA (ofE R c).h kind (R.nx + 1)).1.1), 0, turnR R { ofE R c with k := true } (actA (ofE R c).h kind (R.nx + 1)).1.1)
    else ((0, 0, false), 8, R)
  else (((actA (ofE R c).h kind (R.nx + 1)).1.2.1, (actA (ofE R c).h kind (R.nx + 1)).1.2.2, chg (ofE R c) (actA (ofE R c).h kind (R.nx + 1)).1.1), 0, turnR R (ofE R c) (actA (ofE R c).h kind (R.nx + 1)).1.1)
/-- What a roster's hear answers, its error, and the roster behind it. -/
def hearP (R : Ro) (c : ByteArray) (mail n : Int) : (Int × Bool × Bool) × Nat × Ro :=
  if (hearA (ofE R c).h mail n).2 ≠ 0 then ((0, false, false), (hearA (ofE R c).h mail n).2, R)
  else if mail = 1 ∧ thr (ofE R c) = false ∧ decide ((R.ks.length : Int) - R.kept ≥ R.ak) = true then ((0, true, false), 0, R)
  else (((hearA (ofE R c).h mail n).1.2, false, chg (ofE R c) (hearA (ofE R c).h mail n).1.1), 0, turnR R (ofE R c) (hearA (ofE R c).h mail n).1.1)

/-- What a roster keeps to: bounds of its numbers; each entry stands at its contact. -/
structure RG (R : Ro) : Prop where
  nx : 0 ≤ R.nx ∧ R.nx < 9223372036854775807
  ks : R.ks.length < 900000
  kept : 0 ≤ R.kept ∧ R.kept < 1000000
  ver : 0 ≤ R.ver ∧ R.ver < 9223372036854775807
  key : ∀ s x, R.m s = some x → x.c = s
theorem RG.of {R : Ro} (h : RG R) (c : ByteArray) : (ofE R c).c = c := by
  unfold ofE
  cases hm : R.m c with
  | none => rfl
  | some x => exact h.key c x hm

theorem act_all (w : World) (q mb : Nat) (R : Ro) (h : RA w q mb R) (hG : RG R) (c : ByteArray) (hc : c.size ≤ 1000000) (kind : Int) :
    Calls Tryz.prog 58 #[.pointer (some ⟨q, 0, none⟩), .string c, .int .i64 kind] w fun e w' => GaveV (actP R c kind).2.1 (.agg (acc (actP R c kind).1.1 (actP R c kind).1.2.1 (actP R c kind).1.2.2)) e ∧ RA w' q mb (actP R c kind).2.2 ∧ Keep (fun j => j = q ∨ j = mb) w w' := by
  have hxc : (ofE R c).c.size ≤ 1000000 := by rw [hG.of]; exact hc
  have hk : -1000000 < R.kept ∧ R.kept < 1000000 := ⟨by have := hG.kept; omega, hG.kept.2⟩
  unfold actP
  obtain ⟨⟨⟨t, mm, nn⟩, en⟩, hA⟩ : ∃ r, actA (ofE R c).h kind (R.nx + 1) = r := ⟨_, rfl⟩
  rw [hA]
  by_cases h1 : en = 0
  · rw [if_neg (fun hh => hh h1)]
    by_cases h2 : mm = 0
    · rw [if_pos h2]
      exact act_2 w q mb R h c hc kind (ofE R c) rfl hxc t mm nn en hA hG.nx hG.ks hk hG.ver h1 h2
    · rw [if_neg h2]
      by_cases h3 : kind = 11
      · rw [if_pos h3]
        cases hr : roomB R (ofE R c) with
        | true =>
          rw [if_pos rfl]
          exact act_3 w q mb R h c hc kind (ofE R c) rfl hxc t mm nn en hA hG.nx hG.ks hk hG.ver h1 h2 h3 hr
        | false =>
          rw [if_neg (by decide)]
          refine (act_4 w q mb R h c hc kind (ofE R c) rfl hxc t mm nn en hA hG.nx hG.ks hk hG.ver h1 h2 h3 hr).mono ?_
          rintro e w' ⟨h1, h2⟩
          exact ⟨gv_no (show (8 : Nat) ≠ 0 by decide) h1, h2⟩
      · rw [if_neg h3]
        by_cases h4 : kind = 12
        · rw [if_pos h4]
          cases hr : roomB R (ofE R c) with
          | true =>
            rw [if_pos rfl]
            exact act_5 w q mb R h c hc kind (ofE R c) rfl hxc t mm nn en hA hG.nx hG.ks hk hG.ver h1 h2 h4 hr
          | false =>
            rw [if_neg (by decide)]
            refine (act_6 w q mb R h c hc kind (ofE R c) rfl hxc t mm nn en hA hG.nx hG.ks hk hG.ver h1 h2 h4 hr).mono ?_
            rintro e w' ⟨h1, h2⟩
            exact ⟨gv_no (show (8 : Nat) ≠ 0 by decide) h1, h2⟩
        · rw [if_neg h4]
          exact act_7 w q mb R h c hc kind (ofE R c) rfl hxc t mm nn en hA hG.nx hG.ks hk hG.ver h1 h2 h3 h4
  · rw [if_pos h1]
    refine (act_1 w q mb R h c hc kind (ofE R c) rfl hxc t mm nn en hA hG.nx hG.ks hk hG.ver h1).mono ?_
    rintro e w' ⟨h2, h3⟩
    exact ⟨gv_no h1 h2, h3⟩
theorem hear_all (w : World) (q mb : Nat) (R : Ro) (h : RA w q mb R) (hG : RG R) (c : ByteArray) (hc : c.size ≤ 1000000) (mail n : Int) :
    Calls Tryz.prog 61 #[.pointer (some ⟨q, 0, none⟩), .string c, .int .i64 mail, .int .u64 n] w fun e w' => GaveV (hearP R c mail n).2.1 (.agg (hec (hearP R c mail n).1.1 (hearP R c mail n).1.2.1 (hearP R c mail n).1.2.2)) e ∧ RA w' q mb (hearP R c mail n).2.2 ∧ Keep (fun j => j = q ∨ j = mb) w w' := by
  have hxc : (ofE R c).c.size ≤ 1000000 := by rw [hG.of]; exact hc
  unfold hearP
  obtain ⟨⟨⟨t, tl⟩, en⟩, hA⟩ : ∃ r, hearA (ofE R c).h mail n = r := ⟨_, rfl⟩
  rw [hA]
  by_cases h1 : en = 0
  · rw [if_neg (fun hh => hh h1)]
    by_cases h2 : mail = 1
    · cases ht : thr (ofE R c) with
      | true =>
        rw [if_neg (fun hh => by have := hh.2.1; cases this)]
        exact hear_4 w q mb R h c hc mail n (ofE R c) rfl hxc t tl en hA hG.ks hG.kept hG.ver h1 h2 ht
      | false =>
        cases hr : decide ((R.ks.length : Int) - R.kept ≥ R.ak) with
        | true =>
          rw [if_pos ⟨h2, rfl, rfl⟩]
          exact hear_2 w q mb R h c hc mail n (ofE R c) rfl hxc t tl en hA hG.ks hG.kept hG.ver h1 h2 ht hr
        | false =>
          rw [if_neg (fun hh => by have := hh.2.2; cases this)]
          exact hear_3 w q mb R h c hc mail n (ofE R c) rfl hxc t tl en hA hG.ks hG.kept hG.ver h1 h2 ht hr
    · rw [if_neg (fun hh => h2 hh.1)]
      exact hear_5 w q mb R h c hc mail n (ofE R c) rfl hxc t tl en hA hG.ks hG.kept hG.ver h1 h2
  · rw [if_pos h1]
    refine (hear_1 w q mb R h c hc mail n (ofE R c) rfl hxc t tl en hA hG.ks hG.kept hG.ver h1).mono ?_
    rintro e w' ⟨h2, h3⟩
    exact ⟨gv_no h1 h2, h3⟩

/-- The same, with the contact as it is told. -/
def prepB (s : ByteArray) : ByteArray := ⟨(Nm.localN s.data.toList).1.toArray⟩
def prepE (s : ByteArray) : Nat := (Nm.localN s.data.toList).2
def actS (R : Ro) (s : ByteArray) (kind : Int) : (Int × Int × Bool) × Nat × Ro := if prepE s = 0 then actP R (prepB s) kind else ((0, 0, false), prepE s, R)
def hearS (R : Ro) (s : ByteArray) (mail n : Int) : (Int × Bool × Bool) × Nat × Ro := if prepE s = 0 then hearP R (prepB s) mail n else ((0, false, false), prepE s, R)
theorem exec_store_row {o : Oper} {ρ : Operand → Value} {w : World} (ty : TypeId) (x y : Operand) (ho : o.op = .store ty x y) (g : Nat) (cs cs0 : Array Value) (hx : ρ x = .pointer (some ⟨g, 0, none⟩)) (hy : ρ y = .agg cs) (hg : w.heap[g]? = some (.cells cs0 ty (0, 0)))
    (hi : (Tryz.prog.info? ty).map (·.size) = some cs.size) (hs : cs0.size = cs.size) (h1 : cs.all (·.oneCell') = true) : (execOp ρ o).run Tryz.prog w = .ok .skip (w.setRow g cs) := by
  unfold execOp
  simp only [ho, hx, hy, Instr.storeAt, Instr.sureAddr, Sem.run_bind, Sem.run_pure, Result.andThen_ok, run_storeVar_row w g ty ty _ cs hg hi hs h1]
end Go.Proofs.YtppdopcghnfapaaGreatDoor
