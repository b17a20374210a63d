/- Texts of one seat, one behind the other: RoI, RoJ, RoK, RoT, RoU, RoX, ShelfZ, RoY, RoZ, RoV, RoN, RoO. -/
import Derived.Test.YtppdopcghnfapaaGreatDoorM4
import Derived.Test.YtppdopcghnfapaaGreatDoorM2
import Derived.Shelf.Strconv.Clone
import Derived.Shelf.SortM.Plain
import Derived.Shelf.SortM.SortNone
import Derived.Shelf.Slices.CompactS
import Derived.Shelf.SlSortCmp.WholeK
import Derived.Shelf.SlSortCmp.NoneTotal
import Derived.Shelf.Small.Strs
import Derived.Ground.SlgmProg
import Derived.Ground.SlsfProg
import Derived.Test.YtppdopcghnfapaaGreatDoorProg
import Derived.Sort.OwnSorted
import Derived.Maps.RangeWalk
/- roster: Act and Hear. -/
set_option maxRecDepth 100000
namespace Go.Proofs.YtppdopcghnfapaaGreatDoor
open Go.RowKit Go.Joins

theorem tabs_keep {a b : Nat} {S : Nat → Prop} {w w' : World} (h : Lib.Utf8Tabs a b w) (k : Keep S w w') (ha : ¬ S a) (hb : ¬ S b) : Lib.Utf8Tabs a b w' :=
  ⟨fun c hc => k.cell (h.1 c hc) ha, fun i hi => ⟨k.cell (h.2 i hi).1 hb, k.cell (h.2 i hi).2 hb⟩⟩
theorem tabs_bel {a b : Nat} {w w' : World} (h : Lib.Utf8Tabs a b w) (k : Below w.heap.size w w') : Lib.Utf8Tabs a b w' := tabs_keep h (Keep.ofBelow (S := fun _ => False) k) (fun h => h) (fun h => h)
theorem ra_tabs {a b : Nat} {w : World} {q mb : Nat} {R : Ro} (h : RA w q mb R) (ht : Lib.Utf8Tabs a b w) : (a ≠ q ∧ a ≠ mb) ∧ (b ≠ q ∧ b ≠ mb) := by
  have na : ∀ g : Nat, (∃ v : Int, w.cell? ⟨g, 0, none⟩ = some (.int .u8 v)) → g ≠ q ∧ g ≠ mb := by
    rintro g ⟨v, hv⟩
    constructor
    · intro e
      rw [e, h.c0] at hv
      injection hv with hv
      injection hv with hv
      cases hv
    · intro e
      unfold World.cell? at hv
      obtain ⟨D, ⟨es, clock, hb, _⟩, _⟩ := h.map
      rw [e, hb] at hv
      cases hv
  exact ⟨na a ⟨_, ht.1 0 (by decide)⟩, na b ⟨_, (ht.2 0 (by decide)).1⟩⟩

set_option maxHeartbeats 1600000 in
theorem actC_R (b : Nat) (w : World) (q mb : Nat) (R : Ro) (h : RA w q mb R) (hG : RG R) (s : ByteArray) (hs : s.size ≤ 1000000) (kind : Int) (hq : q < b) (hm : mb < b) (hT : Lib.Utf8Tabs 2 3 w) (hp : (prepB s).size ≤ 1000000) (x0 : w.heap[b]? = some (.cells #[.pointer (some ⟨q, 0, none⟩)] 23 (0, 0))) (x1 : w.heap[b + 1]? = some (.cells #[.string s] 9 (0, 0))) (x2 : w.heap[b + 2]? = some (.cells #[.int .i64 kind] 3 (0, 0))) :
    Calls Tryz.prog 57 #[.pointer (some ⟨b, 0, none⟩), .pointer (some ⟨b + 1, 0, none⟩), .pointer (some ⟨b + 2, 0, none⟩)] w fun e w' => GaveV (actS R s kind).2.1 (.agg (acc (actS R s kind).1.1 (actS R s kind).1.2.1 (actS R s kind).1.2.2)) e ∧ RA w' q mb (actS R s kind).2.2 ∧ Keep (fun j => j = q ∨ j = mb) w w' := by
  have hbs : b + 2 < w.heap.size := (Array.getElem?_eq_some_iff.1 x2).1
  have cL := rlocal_any s w.drew (by omega) (tabs_bel hT (Below.refl _ _).drew)
  have cl2 := fun w1 (hb : Below w.heap.size w w1) => cL
  unfold actS
  generalize hW : (w.alloc (.cells (acc 0 0 false) 99)).drew = W
  have hbW : Below w.heap.size w W := by rw [← hW]; exact (below1 _ _).drew
  have hz : W.heap[w.heap.size]? = some (.cells (acc 0 0 false) 99 (0, 0)) := by rw [← hW]; exact push_at _ _ rfl
  have HW : Hid ((w.alloc (.cells (acc 0 0 false) 99)).drew = W) := hW
  have HS0 : W.heap[b]? = some (.cells #[.pointer (some ⟨q, 0, none⟩)] 23 (0, 0)) ∧ W.heap[b + 1]? = some (.cells #[.string s] 9 (0, 0)) ∧ W.heap[b + 2]? = some (.cells #[.int .i64 kind] 3 (0, 0)) := ⟨box_below x0 hbW, box_below x1 hbW, box_below x2 hbW⟩
  have cLW := rlocal_any s W (by omega) (tabs_bel hT hbW)
  have hRW := h.below hbW
  clear cL cl2 hW x0 x1 x2 hT
  have HR : Hid (RA W q mb R ∧ Below w.heap.size w W ∧ W.heap[w.heap.size]? = some (.cells (acc 0 0 false) 99 (0, 0)) ∧ b + 2 < w.heap.size) := ⟨hRW, hbW, hz, hbs⟩
  clear h hRW hbW hz hbs
  unfold prepE prepB at *
  generalize Nm.localN s.data.toList = p at *
  obtain ⟨l, n⟩ := p
  by_cases h0 : n = 0
  · subst h0
    rw [if_pos rfl]
    have cl : Calls Tryz.prog 53 #[.string s] W fun e w' => e = .returned (.string ⟨l.toArray⟩) ∧ Below W.heap.size W w' := cLW.mono (fun e w' hh => ⟨hh.1.elim (fun k => k.2) (fun k => absurd rfl k.1), hh.2⟩)
    clear cLW
    dsimp only at hp ⊢
    generalize (⟨l.toArray⟩ : ByteArray) = c at *
    have cA : Hid (∀ w1, RA w1 q mb R → Calls Tryz.prog 58 #[.pointer (some ⟨q, 0, none⟩), .string c, .int .i64 kind] w1 fun e w' => GaveV (actP R c kind).2.1 (.agg (acc (actP R c kind).1.1 (actP R c kind).1.2.1 (actP R c kind).1.2.2)) e ∧ RA w' q mb (actP R c kind).2.2 ∧ Keep (fun j => j = q ∨ j = mb) w1 w') := fun w1 hr => act_all w1 q mb R hr hG c hp kind
    generalize actP R c kind = r at cA ⊢
    obtain ⟨v, en, R'⟩ := r
    dsimp only at cA ⊢
    go_enter Tryz.func57, Tryz.ntmps57
    go_upto_region 1 with fail
    refine wp_region_lx (fun w' => w'.heap[b]? = some (.cells #[.pointer (some ⟨q, 0, none⟩)] 23 (0, 0)) ∧ w'.heap[b + 1]? = some (.cells #[.string s] 9 (0, 0)) ∧ w'.heap[b + 2]? = some (.cells #[.int .i64 kind] 3 (0, 0))) [] 6 (by kernel_rfl) (by kernel_rfl) ?_
    rw [show (w.alloc (.cells #[.int .i64 0, .int .u64 0, .bool false] 99)).drew = W from HW.out]
    refine lx_r 0 (.pointer (some ⟨q, 0, none⟩)) HS0 ?_ (hv := fun w' hS => by have p := cell_one hS.1; first | (go_simp; rfl) | go_simp); simp only [lxa, lxb, lxc]
    refine lx_r 1 (.string s) HS0 ?_ (hv := fun w' hS => by have p := cell_one hS.2.1; first | (go_simp; rfl) | go_simp); simp only [lxa, lxb, lxc]
    refine lx_r 3 (.int .i64 kind) HS0 ?_ (hv := fun w' hS => by have p := cell_one hS.2.2; first | (go_simp; rfl) | go_simp); simp only [lxa, lxb, lxc]
    refine lx_one 2 (by kernel_rfl) (stepT_call 53 ?c2 rfl rfl rfl ?d2 ?_)
    case d2 => first | (go_simp; rfl) | go_simp
    refine cl.mono ?_
    rintro e w1 ⟨rfl, hb1⟩
    have HS1 : w1.heap[b]? = some (.cells #[.pointer (some ⟨q, 0, none⟩)] 23 (0, 0)) ∧ w1.heap[b + 1]? = some (.cells #[.string s] 9 (0, 0)) ∧ w1.heap[b + 2]? = some (.cells #[.int .i64 kind] 3 (0, 0)) := ⟨box_below HS0.1 hb1, box_below HS0.2.1 hb1, box_below HS0.2.2 hb1⟩
    refine ⟨_, rfl, fun _ => HS1, ?_⟩
    simp only [lxa, lxb, lxc]
    have hR1 := HR.out.1.below hb1
    have hz1 := box_below HR.out.2.2.1 hb1
    have k1 : Keep (fun j => j = q ∨ j = mb) w w1 := (Keep.ofBelow HR.out.2.1).trans (Keep.ofBelow hb1)
    have hbs := HR.out.2.2.2
    by_cases hen : en = 0
    · subst hen
      refine lx_one 4 (by kernel_rfl) (stepT_call 58 ?c4 rfl rfl rfl ?d4 ?_)
      case d4 => first | (go_simp; rfl) | go_simp
      refine (cA.out w1 hR1).mono ?_
      rintro e w2 ⟨hg, hr2, k2⟩
      have he := hg.elim (fun k => k.2) (fun k => absurd rfl k.1)
      subst he
      have HS2 : w2.heap[b]? = some (.cells #[.pointer (some ⟨q, 0, none⟩)] 23 (0, 0)) ∧ w2.heap[b + 1]? = some (.cells #[.string s] 9 (0, 0)) ∧ w2.heap[b + 2]? = some (.cells #[.int .i64 kind] 3 (0, 0)) := ⟨box_keep HS1.1 k2 (by omega), box_keep HS1.2.1 k2 (by omega), box_keep HS1.2.2 k2 (by omega)⟩
      refine ⟨_, rfl, fun _ => HS2, ?_⟩
      simp only [lxa, lxb, lxc]
      have hz2 := box_keep hz1 k2 (by omega)
      have k3 := rowK w2 w.heap.size (acc v.1 v.2.1 v.2.2)
      have HS3 : (w2.setRow w.heap.size (acc v.1 v.2.1 v.2.2)).heap[b]? = some (.cells #[.pointer (some ⟨q, 0, none⟩)] 23 (0, 0)) ∧ (w2.setRow w.heap.size (acc v.1 v.2.1 v.2.2)).heap[b + 1]? = some (.cells #[.string s] 9 (0, 0)) ∧ (w2.setRow w.heap.size (acc v.1 v.2.1 v.2.2)).heap[b + 2]? = some (.cells #[.int .i64 kind] 3 (0, 0)) := ⟨box_keep HS2.1 k3 (by omega), box_keep HS2.2.1 k3 (by omega), box_keep HS2.2.2 k3 (by omega)⟩
      refine lx_one 5 (by kernel_rfl) (stepT_store (w' := w2.setRow w.heap.size (acc v.1 v.2.1 v.2.2)) rfl rfl rfl ?d5 (fun _ => HS3) ?_)
      case d5 => exact exec_store_row 99 (.tmp 3) (.tmp 8) rfl w.heap.size (acc v.1 v.2.1 v.2.2) _ rfl rfl hz2 (by rw [infoActed]; rfl) (by rfl) (acc_one _ _ _)
      refine lx_nil (by kernel_rfl) ?_
      have a1 : RA (w2.setRow w.heap.size (acc v.1 v.2.1 v.2.2)) q mb R' := hr2.keep k3 (by omega) (by omega)
      have a2 := setRow_heap w2 w.heap.size _ (acc v.1 v.2.1 v.2.2) 99 (0, 0) hz2
      have a3 : Keep (fun j => j = q ∨ j = mb) w (w2.setRow w.heap.size (acc v.1 v.2.1 v.2.2)) := (k1.trans k2).andThen k3 (fun i h1 h2 => by omega)
      have hld := run_loadVar_row _ w.heap.size 99 99 _ (0, 0) _ a2 Tryz.underlying99 rfl (by rw [infoActed]; rfl)
      go_wp2
      first | exact bodyPost_ret (res_row rfl _ _ _ _ rfl hld) rfl ⟨gv_ok rfl, a1, a3⟩ | exact bodyPost_end (res_row rfl _ _ _ _ rfl hld) rfl ⟨gv_ok rfl, a1, a3⟩
    · refine lx_one 4 (by kernel_rfl) (stepT_callP 58 ?c4 rfl rfl rfl ?d4 ?_)
      case d4 => first | (go_simp; rfl) | go_simp
      refine (cA.out w1 hR1).mono ?_
      rintro e w2 ⟨hg, hr2, k2⟩
      have he := hg.elim (fun k => absurd k.1 hen) (fun k => k.2)
      subst he
      exact Or.inr ⟨_, rfl, rfl, gv_no hen rfl, hr2, k1.trans k2⟩
  · rw [if_neg h0]
    have cl : Calls Tryz.prog 53 #[.string s] W fun e w' => e = .panicked (gaveR n) ∧ Below W.heap.size W w' := cLW.mono (fun e w' hh => ⟨hh.1.elim (fun k => absurd k.1 h0) (fun k => k.2), hh.2⟩)
    clear cLW
    go_enter Tryz.func57, Tryz.ntmps57
    go_upto_region 1 with fail
    refine wp_region_lx (fun w' => w'.heap[b]? = some (.cells #[.pointer (some ⟨q, 0, none⟩)] 23 (0, 0)) ∧ w'.heap[b + 1]? = some (.cells #[.string s] 9 (0, 0)) ∧ w'.heap[b + 2]? = some (.cells #[.int .i64 kind] 3 (0, 0))) [] 6 (by kernel_rfl) (by kernel_rfl) ?_
    rw [show (w.alloc (.cells #[.int .i64 0, .int .u64 0, .bool false] 99)).drew = W from HW.out]
    refine lx_r 0 (.pointer (some ⟨q, 0, none⟩)) HS0 ?_ (hv := fun w' hS => by have p := cell_one hS.1; first | (go_simp; rfl) | go_simp); simp only [lxa, lxb, lxc]
    refine lx_r 1 (.string s) HS0 ?_ (hv := fun w' hS => by have p := cell_one hS.2.1; first | (go_simp; rfl) | go_simp); simp only [lxa, lxb, lxc]
    refine lx_r 3 (.int .i64 kind) HS0 ?_ (hv := fun w' hS => by have p := cell_one hS.2.2; first | (go_simp; rfl) | go_simp); simp only [lxa, lxb, lxc]
    refine lx_one 2 (by kernel_rfl) (stepT_callP 53 ?e2 rfl rfl rfl ?f2 ?_)
    case f2 => first | (go_simp; rfl) | go_simp
    refine cl.mono ?_
    rintro e w1 ⟨rfl, hb1⟩
    exact Or.inr ⟨_, rfl, rfl, gv_no h0 rfl, HR.out.1.below hb1, (Keep.ofBelow HR.out.2.1).trans (Keep.ofBelow hb1)⟩

set_option maxHeartbeats 1600000 in
theorem hearC_R (b : Nat) (w : World) (q mb : Nat) (R : Ro) (h : RA w q mb R) (hG : RG R) (s : ByteArray) (hs : s.size ≤ 1000000) (mail n2 : Int) (hq : q < b) (hm : mb < b) (hT : Lib.Utf8Tabs 2 3 w) (hp : (prepB s).size ≤ 1000000) (x0 : w.heap[b]? = some (.cells #[.pointer (some ⟨q, 0, none⟩)] 23 (0, 0))) (x1 : w.heap[b + 1]? = some (.cells #[.string s] 9 (0, 0))) (x2 : w.heap[b + 2]? = some (.cells #[.int .i64 mail] 3 (0, 0))) (x3 : w.heap[b + 3]? = some (.cells #[.int .u64 n2] 33 (0, 0))) :
    Calls Tryz.prog 60 #[.pointer (some ⟨b, 0, none⟩), .pointer (some ⟨b + 1, 0, none⟩), .pointer (some ⟨b + 2, 0, none⟩), .pointer (some ⟨b + 3, 0, none⟩)] w fun e w' => GaveV (hearS R s mail n2).2.1 (.agg (hec (hearS R s mail n2).1.1 (hearS R s mail n2).1.2.1 (hearS R s mail n2).1.2.2)) e ∧ RA w' q mb (hearS R s mail n2).2.2 ∧ Keep (fun j => j = q ∨ j = mb) w w' := by
  have hbs : b + 3 < w.heap.size := (Array.getElem?_eq_some_iff.1 x3).1
  have cL := rlocal_any s w.drew (by omega) (tabs_bel hT (Below.refl _ _).drew)
  have cl2 := fun w1 (hb : Below w.heap.size w w1) => cL
  unfold hearS
  generalize hW : (w.alloc (.cells (hec 0 false false) 60)).drew = W
  have hbW : Below w.heap.size w W := by rw [← hW]; exact (below1 _ _).drew
  have hz : W.heap[w.heap.size]? = some (.cells (hec 0 false false) 60 (0, 0)) := by rw [← hW]; exact push_at _ _ rfl
  have HW : Hid ((w.alloc (.cells (hec 0 false false) 60)).drew = W) := hW
  have HS0 : W.heap[b]? = some (.cells #[.pointer (some ⟨q, 0, none⟩)] 23 (0, 0)) ∧ W.heap[b + 1]? = some (.cells #[.string s] 9 (0, 0)) ∧ W.heap[b + 2]? = some (.cells #[.int .i64 mail] 3 (0, 0)) ∧ W.heap[b + 3]? = some (.cells #[.int .u64 n2] 33 (0, 0)) := ⟨box_below x0 hbW, box_below x1 hbW, box_below x2 hbW, box_below x3 hbW⟩
  have cLW := rlocal_any s W (by omega) (tabs_bel hT hbW)
  have hRW := h.below hbW
  clear cL cl2 hW x0 x1 x2 x3 hT
  have HR : Hid (RA W q mb R ∧ Below w.heap.size w W ∧ W.heap[w.heap.size]? = some (.cells (hec 0 false false) 60 (0, 0)) ∧ b + 3 < w.heap.size) := ⟨hRW, hbW, hz, hbs⟩
  clear h hRW hbW hz hbs
  unfold prepE prepB at *
  generalize Nm.localN s.data.toList = p at *
  obtain ⟨l, n⟩ := p
  by_cases h0 : n = 0
  · subst h0
    rw [if_pos rfl]
    have cl : Calls Tryz.prog 53 #[.string s] W fun e w' => e = .returned (.string ⟨l.toArray⟩) ∧ Below W.heap.size W w' := cLW.mono (fun e w' hh => ⟨hh.1.elim (fun k => k.2) (fun k => absurd rfl k.1), hh.2⟩)
    clear cLW
    dsimp only at hp ⊢
    generalize (⟨l.toArray⟩ : ByteArray) = c at *
    have cA : Hid (∀ w1, RA w1 q mb R → Calls Tryz.prog 61 #[.pointer (some ⟨q, 0, none⟩), .string c, .int .i64 mail, .int .u64 n2] w1 fun e w' => GaveV (hearP R c mail n2).2.1 (.agg (hec (hearP R c mail n2).1.1 (hearP R c mail n2).1.2.1 (hearP R c mail n2).1.2.2)) e ∧ RA w' q mb (hearP R c mail n2).2.2 ∧ Keep (fun j => j = q ∨ j = mb) w1 w') := fun w1 hr => hear_all w1 q mb R hr hG c hp mail n2
    generalize hearP R c mail n2 = r at cA ⊢
    obtain ⟨v, en, R'⟩ := r
    dsimp only at cA ⊢
    go_enter Tryz.func60, Tryz.ntmps60
    go_upto_region 1 with fail
    refine wp_region_lx (fun w' => w'.heap[b]? = some (.cells #[.pointer (some ⟨q, 0, none⟩)] 23 (0, 0)) ∧ w'.heap[b + 1]? = some (.cells #[.string s] 9 (0, 0)) ∧ w'.heap[b + 2]? = some (.cells #[.int .i64 mail] 3 (0, 0)) ∧ w'.heap[b + 3]? = some (.cells #[.int .u64 n2] 33 (0, 0))) [] 7 (by kernel_rfl) (by kernel_rfl) ?_
    rw [show (w.alloc (.cells #[.int .i64 0, .bool false, .bool false] 60)).drew = W from HW.out]
    refine lx_r 0 (.pointer (some ⟨q, 0, none⟩)) HS0 ?_ (hv := fun w' hS => by have p := cell_one hS.1; first | (go_simp; rfl) | go_simp); simp only [lxa, lxb, lxc]
    refine lx_r 1 (.string s) HS0 ?_ (hv := fun w' hS => by have p := cell_one hS.2.1; first | (go_simp; rfl) | go_simp); simp only [lxa, lxb, lxc]
    refine lx_r 3 (.int .i64 mail) HS0 ?_ (hv := fun w' hS => by have p := cell_one hS.2.2.1; first | (go_simp; rfl) | go_simp); simp only [lxa, lxb, lxc]
    refine lx_r 4 (.int .u64 n2) HS0 ?_ (hv := fun w' hS => by have p := cell_one hS.2.2.2; first | (go_simp; rfl) | go_simp); simp only [lxa, lxb, lxc]
    refine lx_one 2 (by kernel_rfl) (stepT_call 53 ?c2 rfl rfl rfl ?d2 ?_)
    case d2 => first | (go_simp; rfl) | go_simp
    refine cl.mono ?_
    rintro e w1 ⟨rfl, hb1⟩
    have HS1 : w1.heap[b]? = some (.cells #[.pointer (some ⟨q, 0, none⟩)] 23 (0, 0)) ∧ w1.heap[b + 1]? = some (.cells #[.string s] 9 (0, 0)) ∧ w1.heap[b + 2]? = some (.cells #[.int .i64 mail] 3 (0, 0)) ∧ w1.heap[b + 3]? = some (.cells #[.int .u64 n2] 33 (0, 0)) := ⟨box_below HS0.1 hb1, box_below HS0.2.1 hb1, box_below HS0.2.2.1 hb1, box_below HS0.2.2.2 hb1⟩
    refine ⟨_, rfl, fun _ => HS1, ?_⟩
    simp only [lxa, lxb, lxc]
    have hR1 := HR.out.1.below hb1
    have hz1 := box_below HR.out.2.2.1 hb1
    have k1 : Keep (fun j => j = q ∨ j = mb) w w1 := (Keep.ofBelow HR.out.2.1).trans (Keep.ofBelow hb1)
    have hbs := HR.out.2.2.2
    by_cases hen : en = 0
    · subst hen
      refine lx_one 5 (by kernel_rfl) (stepT_call 61 ?c4 rfl rfl rfl ?d4 ?_)
      case d4 => first | (go_simp; rfl) | go_simp
      refine (cA.out w1 hR1).mono ?_
      rintro e w2 ⟨hg, hr2, k2⟩
      have he := hg.elim (fun k => k.2) (fun k => absurd rfl k.1)
      subst he
      have HS2 : w2.heap[b]? = some (.cells #[.pointer (some ⟨q, 0, none⟩)] 23 (0, 0)) ∧ w2.heap[b + 1]? = some (.cells #[.string s] 9 (0, 0)) ∧ w2.heap[b + 2]? = some (.cells #[.int .i64 mail] 3 (0, 0)) ∧ w2.heap[b + 3]? = some (.cells #[.int .u64 n2] 33 (0, 0)) := ⟨box_keep HS1.1 k2 (by omega), box_keep HS1.2.1 k2 (by omega), box_keep HS1.2.2.1 k2 (by omega), box_keep HS1.2.2.2 k2 (by omega)⟩
      refine ⟨_, rfl, fun _ => HS2, ?_⟩
      simp only [lxa, lxb, lxc]
      have hz2 := box_keep hz1 k2 (by omega)
      have k3 := rowK w2 w.heap.size (hec v.1 v.2.1 v.2.2)
      have HS3 : (w2.setRow w.heap.size (hec v.1 v.2.1 v.2.2)).heap[b]? = some (.cells #[.pointer (some ⟨q, 0, none⟩)] 23 (0, 0)) ∧ (w2.setRow w.heap.size (hec v.1 v.2.1 v.2.2)).heap[b + 1]? = some (.cells #[.string s] 9 (0, 0)) ∧ (w2.setRow w.heap.size (hec v.1 v.2.1 v.2.2)).heap[b + 2]? = some (.cells #[.int .i64 mail] 3 (0, 0)) ∧ (w2.setRow w.heap.size (hec v.1 v.2.1 v.2.2)).heap[b + 3]? = some (.cells #[.int .u64 n2] 33 (0, 0)) := ⟨box_keep HS2.1 k3 (by omega), box_keep HS2.2.1 k3 (by omega), box_keep HS2.2.2.1 k3 (by omega), box_keep HS2.2.2.2 k3 (by omega)⟩
      refine lx_one 6 (by kernel_rfl) (stepT_store (w' := w2.setRow w.heap.size (hec v.1 v.2.1 v.2.2)) rfl rfl rfl ?d5 (fun _ => HS3) ?_)
      case d5 => exact exec_store_row 60 (.tmp 4) (.tmp 10) rfl w.heap.size (hec v.1 v.2.1 v.2.2) _ rfl rfl hz2 (by rw [infoHeard]; rfl) (by rfl) (hec_one _ _ _)
      refine lx_nil (by kernel_rfl) ?_
      have a1 : RA (w2.setRow w.heap.size (hec v.1 v.2.1 v.2.2)) q mb R' := hr2.keep k3 (by omega) (by omega)
      have a2 := setRow_heap w2 w.heap.size _ (hec v.1 v.2.1 v.2.2) 60 (0, 0) hz2
      have a3 : Keep (fun j => j = q ∨ j = mb) w (w2.setRow w.heap.size (hec v.1 v.2.1 v.2.2)) := (k1.trans k2).andThen k3 (fun i h1 h2 => by omega)
      have hld := run_loadVar_row _ w.heap.size 60 60 _ (0, 0) _ a2 Tryz.underlying60 rfl (by rw [infoHeard]; rfl)
      go_wp2
      first | exact bodyPost_ret (res_row rfl _ _ _ _ rfl hld) rfl ⟨gv_ok rfl, a1, a3⟩ | exact bodyPost_end (res_row rfl _ _ _ _ rfl hld) rfl ⟨gv_ok rfl, a1, a3⟩
    · refine lx_one 5 (by kernel_rfl) (stepT_callP 61 ?c4 rfl rfl rfl ?d4 ?_)
      case d4 => first | (go_simp; rfl) | go_simp
      refine (cA.out w1 hR1).mono ?_
      rintro e w2 ⟨hg, hr2, k2⟩
      have he := hg.elim (fun k => absurd k.1 hen) (fun k => k.2)
      subst he
      exact Or.inr ⟨_, rfl, rfl, gv_no hen rfl, hr2, k1.trans k2⟩
  · rw [if_neg h0]
    have cl : Calls Tryz.prog 53 #[.string s] W fun e w' => e = .panicked (gaveR n) ∧ Below W.heap.size W w' := cLW.mono (fun e w' hh => ⟨hh.1.elim (fun k => absurd k.1 h0) (fun k => k.2), hh.2⟩)
    clear cLW
    go_enter Tryz.func60, Tryz.ntmps60
    go_upto_region 1 with fail
    refine wp_region_lx (fun w' => w'.heap[b]? = some (.cells #[.pointer (some ⟨q, 0, none⟩)] 23 (0, 0)) ∧ w'.heap[b + 1]? = some (.cells #[.string s] 9 (0, 0)) ∧ w'.heap[b + 2]? = some (.cells #[.int .i64 mail] 3 (0, 0)) ∧ w'.heap[b + 3]? = some (.cells #[.int .u64 n2] 33 (0, 0))) [] 7 (by kernel_rfl) (by kernel_rfl) ?_
    rw [show (w.alloc (.cells #[.int .i64 0, .bool false, .bool false] 60)).drew = W from HW.out]
    refine lx_r 0 (.pointer (some ⟨q, 0, none⟩)) HS0 ?_ (hv := fun w' hS => by have p := cell_one hS.1; first | (go_simp; rfl) | go_simp); simp only [lxa, lxb, lxc]
    refine lx_r 1 (.string s) HS0 ?_ (hv := fun w' hS => by have p := cell_one hS.2.1; first | (go_simp; rfl) | go_simp); simp only [lxa, lxb, lxc]
    refine lx_r 3 (.int .i64 mail) HS0 ?_ (hv := fun w' hS => by have p := cell_one hS.2.2.1; first | (go_simp; rfl) | go_simp); simp only [lxa, lxb, lxc]
    refine lx_r 4 (.int .u64 n2) HS0 ?_ (hv := fun w' hS => by have p := cell_one hS.2.2.2; first | (go_simp; rfl) | go_simp); simp only [lxa, lxb, lxc]
    refine lx_one 2 (by kernel_rfl) (stepT_callP 53 ?e2 rfl rfl rfl ?f2 ?_)
    case f2 => first | (go_simp; rfl) | go_simp
    refine cl.mono ?_
    rintro e w1 ⟨rfl, hb1⟩
    exact Or.inr ⟨_, rfl, rfl, gv_no h0 rfl, HR.out.1.below hb1, (Keep.ofBelow HR.out.2.1).trans (Keep.ofBelow hb1)⟩
end Go.Proofs.YtppdopcghnfapaaGreatDoor

/- roster: the methods Act and Hear. -/
set_option maxRecDepth 100000
namespace Go.Proofs.YtppdopcghnfapaaGreatDoor
open Go.RowKit Go.Joins

theorem res4 {fn : Func} {a b c d : Tmp} (h : fn.results = #[.tmp a, .tmp b, .tmp c, .tmp d]) (tmps : Array Value) (w : World) (va vb vc vd : Value) (ha : tmps.getD a undef = va) (hb : tmps.getD b undef = vb) (hc : tmps.getD c undef = vc) (hd : tmps.getD d undef = vd) :
    (results fn tmps).run Tryz.prog w = .ok (.tuple #[va, vb, vc, vd]) w := by
  have ha' : tmps[a]?.getD undef = va := by simpa using ha
  have hb' : tmps[b]?.getD undef = vb := by simpa using hb
  have hc' : tmps[c]?.getD undef = vc := by simpa using hc
  have hd' : tmps[d]?.getD undef = vd := by simpa using hd
  simp [results, h, ha', hb', hc', hd']
theorem actP_no (R : Ro) (c : ByteArray) (kind : Int) (h : (actP R c kind).2.1 ≠ 0) : (actP R c kind).1 = (0, 0, false) := by
  unfold actP at h ⊢
  split
  · rfl
  · rename_i h1
    rw [if_neg h1] at h
    split
    · rfl
    · rename_i h2
      rw [if_neg h2] at h
      split
      · rename_i h3
        rw [if_pos h3] at h
        split
        · rename_i h4
          rw [if_pos h4] at h
          exact absurd rfl h
        · rfl
      · rename_i h3
        rw [if_neg h3] at h
        split
        · rename_i h4
          rw [if_pos h4] at h
          split
          · rename_i h5
            rw [if_pos h5] at h
            exact absurd rfl h
          · rfl
        · rename_i h4
          rw [if_neg h4] at h
          exact absurd rfl h
theorem actS_no (R : Ro) (s : ByteArray) (kind : Int) (h : (actS R s kind).2.1 ≠ 0) : (actS R s kind).1 = (0, 0, false) := by
  unfold actS at h ⊢
  split
  · rename_i h1
    rw [if_pos h1] at h
    exact actP_no R _ kind h
  · rfl
theorem hearP_no (R : Ro) (c : ByteArray) (mail n : Int) (h : (hearP R c mail n).2.1 ≠ 0) : (hearP R c mail n).1 = (0, false, false) := by
  unfold hearP at h ⊢
  split
  · rfl
  · rename_i h1
    rw [if_neg h1] at h
    split
    · rename_i h2
      rw [if_pos h2] at h
      exact absurd rfl h
    · rename_i h2
      rw [if_neg h2] at h
      exact absurd rfl h
theorem hearS_no (R : Ro) (s : ByteArray) (mail n : Int) (h : (hearS R s mail n).2.1 ≠ 0) : (hearS R s mail n).1 = (0, false, false) := by
  unfold hearS at h ⊢
  split
  · rename_i h1
    rw [if_pos h1] at h
    exact hearP_no R _ mail n h
  · rfl
theorem pair_eta {α β γ : Type} (v : α × β × γ) {a : α} {b : β} {c : γ} (h : v = (a, b, c)) : v.1 = a ∧ v.2.1 = b ∧ v.2.2 = c := by subst h; exact ⟨rfl, rfl, rfl⟩

theorem attActR (b : Nat) (w : World) (q mb : Nat) (R : Ro) (h : RA w q mb R) (hG : RG R) (s : ByteArray) (hs : s.size ≤ 1000000) (kind : Int) (hq : q < b) (hm : mb < b) (hT : Lib.Utf8Tabs 2 3 w) (hp : (prepB s).size ≤ 1000000) (x0 : w.heap[b]? = some (.cells #[.pointer (some ⟨q, 0, none⟩)] 23 (0, 0))) (x1 : w.heap[b + 1]? = some (.cells #[.string s] 9 (0, 0))) (x2 : w.heap[b + 2]? = some (.cells #[.int .i64 kind] 3 (0, 0))) :
    Calls Tryz.prog 56 #[.func (.func 57) #[] #[.pointer (some ⟨b, 0, none⟩), .pointer (some ⟨b + 1, 0, none⟩), .pointer (some ⟨b + 2, 0, none⟩)]] w fun e w' => e = .returned (.tuple #[.agg (acc (actS R s kind).1.1 (actS R s kind).1.2.1 (actS R s kind).1.2.2), .int .i64 (actS R s kind).2.1]) ∧ RA w' q mb (actS R s kind).2.2 ∧ Keep (fun j => j = q ∨ j = mb) w w' := by
  have hbW := below2 w (.cells (acc 0 0 false) 99) (.cells #[.int .i64 0] 24)
  have hbs : b < w.heap.size := (Array.getElem?_eq_some_iff.1 x0).1
  have hno := actS_no R s kind
  have hc := actC_R b _ q mb R (h.below hbW) hG s hs kind hq hm (tabs_bel hT hbW) hp (box_below x0 hbW) (box_below x1 hbW) (box_below x2 hbW)
  generalize actS R s kind = r at hc hno ⊢
  obtain ⟨⟨v1, v2, v3⟩, en, R'⟩ := r
  refine (attemptA 57 _ en v1 v2 v3 (fun j => j = q ∨ j = mb) (fun w' => RA w' q mb R') w (fun args w => by kernel_rfl) (fun i hi => by omega) hc).mono ?_
  rintro e w' ⟨rfl, w1, hr, k1, k2⟩
  refine ⟨?_, hr.keep k2 (by omega) (by omega), k1.andThen k2 (fun i h1 h2 => by omega)⟩
  by_cases h0 : en = 0
  · rw [if_pos h0]
  · rw [if_neg h0]
    obtain ⟨e1, e2, e3⟩ := pair_eta _ (hno h0)
    have e1' : v1 = _ := e1
    have e2' : v2 = _ := e2
    have e3' : v3 = _ := e3
    rw [e1', e2', e3']

theorem attHearR (b : Nat) (w : World) (q mb : Nat) (R : Ro) (h : RA w q mb R) (hG : RG R) (s : ByteArray) (hs : s.size ≤ 1000000) (mail n2 : Int) (hq : q < b) (hm : mb < b) (hT : Lib.Utf8Tabs 2 3 w) (hp : (prepB s).size ≤ 1000000) (x0 : w.heap[b]? = some (.cells #[.pointer (some ⟨q, 0, none⟩)] 23 (0, 0))) (x1 : w.heap[b + 1]? = some (.cells #[.string s] 9 (0, 0))) (x2 : w.heap[b + 2]? = some (.cells #[.int .i64 mail] 3 (0, 0))) (x3 : w.heap[b + 3]? = some (.cells #[.int .u64 n2] 33 (0, 0))) :
    Calls Tryz.prog 59 #[.func (.func 60) #[] #[.pointer (some ⟨b, 0, none⟩), .pointer (some ⟨b + 1, 0, none⟩), .pointer (some ⟨b + 2, 0, none⟩), .pointer (some ⟨b + 3, 0, none⟩)]] w fun e w' => e = .returned (.tuple #[.agg (hec (hearS R s mail n2).1.1 (hearS R s mail n2).1.2.1 (hearS R s mail n2).1.2.2), .int .i64 (hearS R s mail n2).2.1]) ∧ RA w' q mb (hearS R s mail n2).2.2 ∧ Keep (fun j => j = q ∨ j = mb) w w' := by
  have hbW := below2 w (.cells (hec 0 false false) 60) (.cells #[.int .i64 0] 24)
  have hbs : b < w.heap.size := (Array.getElem?_eq_some_iff.1 x0).1
  have hno := hearS_no R s mail n2
  have hc := hearC_R b _ q mb R (h.below hbW) hG s hs mail n2 hq hm (tabs_bel hT hbW) hp (box_below x0 hbW) (box_below x1 hbW) (box_below x2 hbW) (box_below x3 hbW)
  generalize hearS R s mail n2 = r at hc hno ⊢
  obtain ⟨⟨v1, v2, v3⟩, en, R'⟩ := r
  refine (attemptH 60 _ en v1 v2 v3 (fun j => j = q ∨ j = mb) (fun w' => RA w' q mb R') w (fun args w => by kernel_rfl) (fun i hi => by omega) hc).mono ?_
  rintro e w' ⟨rfl, w1, hr, k1, k2⟩
  refine ⟨?_, hr.keep k2 (by omega) (by omega), k1.andThen k2 (fun i h1 h2 => by omega)⟩
  by_cases h0 : en = 0
  · rw [if_pos h0]
  · rw [if_neg h0]
    obtain ⟨e1, e2, e3⟩ := pair_eta _ (hno h0)
    have e1' : v1 = _ := e1
    have e2' : v2 = _ := e2
    have e3' : v3 = _ := e3
    rw [e1', e2', e3']

set_option maxHeartbeats 800000 in
theorem Act_R (w : World) (q mb : Nat) (R : Ro) (h : RA w q mb R) (hG : RG R) (s : ByteArray) (hs : s.size ≤ 1000000) (kind : Int) (hT : Lib.Utf8Tabs 2 3 w) (hp : (prepB s).size ≤ 1000000) :
    Calls Tryz.prog 22 #[.pointer (some ⟨q, 0, none⟩), .string s, .int .i64 kind] w fun e w' => e = .returned (.tuple #[.int .i64 (actS R s kind).1.1, .int .u64 (actS R s kind).1.2.1, .bool (actS R s kind).1.2.2, .int .i64 (actS R s kind).2.1]) ∧ RA w' q mb (actS R s kind).2.2 ∧ Keep (fun j => j = q ∨ j = mb) w w' := by
  have hmf : ∀ (fn : Fn) (first cap : Array Value) (w : World), (Instr.makeFunc fn first cap).run Tryz.prog w = .ok (.func fn first cap) w := fun _ _ _ _ => rfl
  have hb : Below w.heap.size w (((w.alloc (.cells #[.pointer (some ⟨q, 0, none⟩)] 23)).alloc (.cells #[.string s] 9)).alloc (.cells #[.int .i64 kind] 3)) := ((((Below.refl _ _).alloc (Nat.le_refl _) _).alloc (by simp) _).alloc (by simp; omega) _)
  have hq := h.lt
  have hm := h.map.lt
  have hc := attActR w.heap.size _ q mb R (h.below hb) hG s hs kind hq hm (tabs_bel hT hb) hp (push_old (push_old (push_at _ _ rfl))) (push_old (push_at _ _ (by simp))) (push_at _ _ (by simp))
  generalize actS R s kind = r at hc ⊢
  obtain ⟨⟨m, n, ch⟩, en, R'⟩ := r
  dsimp only at hc ⊢
  have HB : Hid _ := hb
  have HL : Hid (q < w.heap.size ∧ mb < w.heap.size) := ⟨hq, hm⟩
  clear h hT hb hq hm hp
  unfold acc at hc
  go_enter Tryz.func22, Tryz.ntmps22
  go_upto_region 2 with (first
    | (go_at_call 56; refine hc.mono ?_; clear hc; rintro e w4 ⟨rfl, hr4, k4⟩))
  have hk : Keep (fun j => j = q ∨ j = mb) w w4 := (Keep.ofBelow HB.out).trans k4
  have q0 : (w4.alloc (.cells #[.int .i64 m, .int .u64 n, .bool ch] 99)).cell? ⟨w4.heap.size, 0, none⟩ = some (.int .i64 m) := by rw [cell_of_block (push_at _ _ rfl)]; rfl
  have q1 : (w4.alloc (.cells #[.int .i64 m, .int .u64 n, .bool ch] 99)).cell? ⟨w4.heap.size, 1, none⟩ = some (.int .u64 n) := by rw [cell_of_block (push_at _ _ rfl)]; rfl
  have q2 : (w4.alloc (.cells #[.int .i64 m, .int .u64 n, .bool ch] 99)).cell? ⟨w4.heap.size, 2, none⟩ = some (.bool ch) := by rw [cell_of_block (push_at _ _ rfl)]; rfl
  have hb5 := below1 w4 (.cells #[.int .i64 m, .int .u64 n, .bool ch] 99)
  have hR5 : Hid (∀ w', Below (w4.alloc (.cells #[.int .i64 m, .int .u64 n, .bool ch] 99)).heap.size (w4.alloc (.cells #[.int .i64 m, .int .u64 n, .bool ch] 99)) w' → RA w' q mb R' ∧ Keep (fun j => j = q ∨ j = mb) w w') := fun w' hb => ⟨(hr4.below hb5).below hb, (hk.trans (Keep.ofBelow hb5)).trans (Keep.ofBelow hb)⟩
  clear hr4 k4 hk hb5
  generalize w4.alloc _ = W at *
  generalize w4.heap.size = g at *
  go_quiet (fail)
  go_wp2
  refine bodyPost_ret (res4 rfl _ _ _ _ _ _ rfl rfl rfl rfl) rfl ⟨rfl, ?_⟩
  exact hR5.out _ ⟨rfl, rfl, rfl, Nat.le_refl _, fun _ _ => rfl⟩

theorem resCT {fn : Func} {p t : Tmp} {ty : TypeId} (h : fn.results = #[.cell p ty, .tmp t]) (tmps : Array Value) (w : World) (g : Nat) (V v : Value) (hp : tmps.getD p undef = .pointer (some ⟨g, 0, none⟩)) (ht : tmps.getD t undef = v) (hr : (loadVar ty ⟨g, 0, none⟩).run Tryz.prog w = .ok V w) :
    (results fn tmps).run Tryz.prog w = .ok (.tuple #[V, v]) w := by
  have hp' : tmps[p]?.getD undef = .pointer (some ⟨g, 0, none⟩) := by simpa using hp
  have ht' : tmps[t]?.getD undef = v := by simpa using ht
  simp [results, h, hp', ht', asAddr, hr]
set_option maxHeartbeats 800000 in
theorem Hear_R (w : World) (q mb : Nat) (R : Ro) (h : RA w q mb R) (hG : RG R) (s : ByteArray) (hs : s.size ≤ 1000000) (mail n2 : Int) (hT : Lib.Utf8Tabs 2 3 w) (hp : (prepB s).size ≤ 1000000) :
    Calls Tryz.prog 23 #[.pointer (some ⟨q, 0, none⟩), .string s, .int .i64 mail, .int .u64 n2] w fun e w' => e = .returned (.tuple #[.agg (hec (hearS R s mail n2).1.1 (hearS R s mail n2).1.2.1 (hearS R s mail n2).1.2.2), .int .i64 (hearS R s mail n2).2.1]) ∧ RA w' q mb (hearS R s mail n2).2.2 ∧ Keep (fun j => j = q ∨ j = mb) w w' := by
  have hmf : ∀ (fn : Fn) (first cap : Array Value) (w : World), (Instr.makeFunc fn first cap).run Tryz.prog w = .ok (.func fn first cap) w := fun _ _ _ _ => rfl
  have hb : Below w.heap.size w (((((w.alloc (.cells #[.pointer (some ⟨q, 0, none⟩)] 23)).alloc (.cells #[.string s] 9)).alloc (.cells #[.int .i64 mail] 3)).alloc (.cells #[.int .u64 n2] 33)).alloc (.cells (hec 0 false false) 60)) := ((((((Below.refl _ _).alloc (Nat.le_refl _) _).alloc (by simp) _).alloc (by simp; omega) _).alloc (by simp; omega) _).alloc (by simp; omega) _)
  have hz : (((((w.alloc (.cells #[.pointer (some ⟨q, 0, none⟩)] 23)).alloc (.cells #[.string s] 9)).alloc (.cells #[.int .i64 mail] 3)).alloc (.cells #[.int .u64 n2] 33)).alloc (.cells (hec 0 false false) 60)).heap[w.heap.size + 4]? = some (.cells (hec 0 false false) 60 (0, 0)) := push_at _ _ (by simp)
  have hq := h.lt
  have hm := h.map.lt
  have hc := attHearR w.heap.size _ q mb R (h.below hb) hG s hs mail n2 hq hm (tabs_bel hT hb) hp (push_old (push_old (push_old (push_old (push_at _ _ rfl))))) (push_old (push_old (push_old (push_at _ _ (by simp))))) (push_old (push_old (push_at _ _ (by simp)))) (push_old (push_at _ _ (by simp)))
  generalize hearS R s mail n2 = r at hc ⊢
  obtain ⟨⟨t, d, ch⟩, en, R'⟩ := r
  dsimp only at hc ⊢
  have HB : Hid (Below w.heap.size w _ ∧ _ = _) := ⟨hb, hz⟩
  have HL : Hid (q < w.heap.size ∧ mb < w.heap.size) := ⟨hq, hm⟩
  clear h hT hb hq hm hp hz
  obtain ⟨V, HV⟩ : ∃ V, Hid (Value.agg (hec t d ch) = V) := ⟨_, rfl⟩
  rw [HV.out] at hc ⊢
  have hec0 : hec 0 false false = #[.int .i64 0, .bool false, .bool false] := rfl
  rw [hec0] at hc
  clear hec0
  go_enter Tryz.func23, Tryz.ntmps23
  go_wp2_with (first
    | (go_at_call 59; refine hc.mono ?_; clear hc; rintro e w4 ⟨rfl, hr4, k4⟩; have z4 := box_keep HB.out.2 k4 (by have := HL.out; omega))
    | (refine wpList_store_row rfl 60 (.tmp 8) (.tmp 12) rfl (w.heap.size + 4) (hec t d ch) rfl HV.out.symm 60 _ z4 (by rw [infoHeard]; rfl) (by rfl) (hec_one _ _ _) ?_))
  have k5 := rowK w4 (w.heap.size + 4) (hec t d ch)
  have a2 := setRow_heap w4 (w.heap.size + 4) _ (hec t d ch) 60 (0, 0) z4
  have hld := run_loadVar_row _ (w.heap.size + 4) 60 60 _ (0, 0) _ a2 Tryz.underlying60 rfl (by rw [infoHeard]; rfl)
  rw [HV.out] at hld
  refine bodyPost_ret (resCT rfl _ _ _ _ _ rfl rfl hld) rfl ⟨rfl, hr4.keep k5 (by have := HL.out; omega) (by have := HL.out; omega), ((Keep.ofBelow HB.out.1).trans k4).andThen k5 (fun i h1 h2 => by omega)⟩
end Go.Proofs.YtppdopcghnfapaaGreatDoor

/- roster: copied, Get; New. -/
set_option maxRecDepth 100000
namespace Go.Proofs.YtppdopcghnfapaaGreatDoor
open Go.RowKit Go.Joins Go.Shelf

theorem clone_any (s : ByteArray) (w : World) (hs : s.size ≤ 281474976710656) : Calls Tryz.prog 93 #[.string s] w fun e w' => e = .returned (.string s) ∧ Below w.heap.size w w' := by
  have c : Calls Tryz.prog 115 #[.string s] w fun e w' => e = .returned (.string s) ∧ Below w.heap.size w w' := Any.stringslite_Clone Tryz.laysM316 s w hs
  go_enter Tryz.func93, Tryz.ntmps93
  go_wp2_with (go_at_call 115; refine c.mono ?_; rintro e w1 ⟨rfl, hb⟩)
  go_ret
  exact ⟨rfl, hb⟩
theorem copiedNil (w : World) : Calls Tryz.prog 110 #[.slice none 0 0] w fun e w' => e = .returned (.slice none 0 0) ∧ w' = w := by
  go_enter Tryz.func110, Tryz.ntmps110
  go_wp2_with fail
  refine wp_loop_once ?_
  go_wp2
  go_ret
  exact ⟨rfl, rfl⟩

/-- An entry that is being copied, and the answer's variable. -/
def CP (w : World) (B : Nat) (x : En) (W : World) : Prop := (EnAt W B x ∧ EnAt W (B + 1) (en0 ⟨#[]⟩)) ∧ Below w.heap.size w W ∧ w.heap.size = B
theorem CP.below {w : World} {B : Nat} {x : En} {W W' : World} (h : CP w B x W) (hb : Below W.heap.size W W') : CP w B x W' := ⟨⟨h.1.1.carry hb, h.1.2.carry hb⟩, h.2.1.trans (hb.mono (by have := h.2.1.size; omega)), h.2.2⟩
theorem CP.set {w : World} {B : Nat} {x : En} {W : World} (h : CP w B x W) (i : Nat) (v : Value) (e : (enc x).setIfInBounds i v = enc x) : CP w B x (W.setCell ⟨B, i, none⟩ v) := by
  have a := block_setCell (i := i) h.1.1 v
  rw [e] at a
  have := h.2.2
  have := h.1.1.lt
  exact ⟨⟨a, h.1.2.keep (setK W B i v) (by omega)⟩, h.2.1.trans ((setK W B i v).below (by omega) (fun j hj => by omega)), h.2.2⟩
set_option maxHeartbeats 800000 in
theorem copied_any (x : En) (hc : x.c.size ≤ 1000000) (hn : x.nm.size ≤ 1000000) (hg : x.g = (none, 0, 0)) (w : World) : Calls Tryz.prog 81 #[env x] w fun e w' => e = .returned (env x) ∧ Below w.heap.size w w' := by
  obtain ⟨c, k, nm, g, ho, hn', hi, hm⟩ := x
  dsimp only at hc hn hg
  subst hg
  have c1 := fun w => clone_any c w (by omega)
  have c2 := fun w => clone_any nm w (by omega)
  have c3 := fun w => copiedNil w
  have h2 : EnAt ((w.alloc (.cells #[.string c, .bool k, .string nm, .slice none 0 0, .int .i64 ho, .int .u64 hn', .int .i64 hi, .int .u64 hm] 51)).alloc (.cells #[.string ⟨#[]⟩, .bool false, .string ⟨#[]⟩, .slice none 0 0, .int .i64 0, .int .u64 0, .int .i64 0, .int .u64 0] 51)) (w.heap.size + 1) (en0 ⟨#[]⟩) := push_at _ _ (by simp)
  have h1 : EnAt ((w.alloc (.cells #[.string c, .bool k, .string nm, .slice none 0 0, .int .i64 ho, .int .u64 hn', .int .i64 hi, .int .u64 hm] 51)).alloc (.cells #[.string ⟨#[]⟩, .bool false, .string ⟨#[]⟩, .slice none 0 0, .int .i64 0, .int .u64 0, .int .i64 0, .int .u64 0] 51)) w.heap.size ⟨c, k, nm, (none, 0, 0), ⟨ho, hn', hi, hm⟩⟩ := push_old (push_at _ _ rfl)
  have hb := below2 w (.cells #[.string c, .bool k, .string nm, .slice none 0 0, .int .i64 ho, .int .u64 hn', .int .i64 hi, .int .u64 hm] 51) (.cells #[.string ⟨#[]⟩, .bool false, .string ⟨#[]⟩, .slice none 0 0, .int .i64 0, .int .u64 0, .int .i64 0, .int .u64 0] 51)
  have HO : Hid (CP w w.heap.size ⟨c, k, nm, (none, 0, 0), ⟨ho, hn', hi, hm⟩⟩ ((w.alloc (.cells #[.string c, .bool k, .string nm, .slice none 0 0, .int .i64 ho, .int .u64 hn', .int .i64 hi, .int .u64 hm] 51)).alloc (.cells #[.string ⟨#[]⟩, .bool false, .string ⟨#[]⟩, .slice none 0 0, .int .i64 0, .int .u64 0, .int .i64 0, .int .u64 0] 51))) := ⟨⟨h1, h2⟩, hb, rfl⟩
  obtain ⟨V, HV⟩ : ∃ V, Hid (env ⟨c, k, nm, (none, 0, 0), ⟨ho, hn', hi, hm⟩⟩ = V) := ⟨_, rfl⟩
  rw [HV.out]
  rw [show V = .agg #[.string c, .bool k, .string nm, .slice none 0 0, .int .i64 ho, .int .u64 hn', .int .i64 hi, .int .u64 hm] from HV.out.symm]
  clear h1 h2 hb hc hn
  go_enter Tryz.func81, Tryz.ntmps81
  go_upto_region 1 with fail
  generalize ((w.alloc _).alloc _) = W0 at HO ⊢
  obtain ⟨B, HB⟩ : ∃ B, Hid (w.heap.size = B) := ⟨_, rfl⟩
  rw [HB.out] at HO ⊢
  have q0 := HO.out.1.1.c0
  go_upto_region 2 with (first
    | (go_at_call 93; refine (c1 _).mono ?_; clear c1; rintro e w1 ⟨rfl, hb1⟩; have P1 : Hid (CP w B ⟨c, k, nm, (none, 0, 0), ⟨ho, hn', hi, hm⟩⟩ w1) := HO.out.below hb1; have r0 := P1.out.1.1.c0; have s0 := P1.out.1.1.fz 0))
  have P2 : Hid (CP w B ⟨c, k, nm, (none, 0, 0), ⟨ho, hn', hi, hm⟩⟩ (w1.setCell ⟨B, 0, none⟩ (.string c))) := P1.out.set 0 _ rfl
  clear q0 hb1 r0 s0 HO P1
  generalize w1.setCell _ _ = W1 at P2 ⊢
  have q0 := P2.out.1.1.c2
  go_upto_region 3 with (first
    | (go_at_call 93; refine (c2 _).mono ?_; clear c2; rintro e w2 ⟨rfl, hb1⟩; have P1 : Hid (CP w B ⟨c, k, nm, (none, 0, 0), ⟨ho, hn', hi, hm⟩⟩ w2) := P2.out.below hb1; have r0 := P1.out.1.1.c2; have s0 := P1.out.1.1.fz 2))
  have P3 : Hid (CP w B ⟨c, k, nm, (none, 0, 0), ⟨ho, hn', hi, hm⟩⟩ (w2.setCell ⟨B, 2, none⟩ (.string nm))) := P1.out.set 2 _ rfl
  clear q0 hb1 r0 s0 P2 P1
  generalize w2.setCell _ _ = W2 at P3 ⊢
  have q0 : W2.cell? ⟨B, 3, none⟩ = some (.slice none 0 0) := P3.out.1.1.c3
  have s0 := P3.out.1.1.fz 3
  go_upto_region 4 with (first
    | (go_at_call 110; refine (c3 _).mono ?_; clear c3; rintro e w3 ⟨rfl, hw3⟩; replace hw3 := hw3.symm; subst hw3))
  have P4 : Hid (CP w B ⟨c, k, nm, (none, 0, 0), ⟨ho, hn', hi, hm⟩⟩ (W2.setCell ⟨B, 3, none⟩ (.slice none 0 0))) := P3.out.set 3 _ rfl
  clear q0 s0 P3
  generalize W2.setCell _ _ = W3 at P4 ⊢
  go_wp2_with (first
    | (refine wp_load_en rfl (.tmp 1) rfl B rfl ⟨c, k, nm, (none, 0, 0), ⟨ho, hn', hi, hm⟩⟩ P4.out.1.1 ?_)
    | (refine wp_store_en rfl (.tmp 2) (.tmp 15) rfl (B + 1) rfl ⟨c, k, nm, (none, 0, 0), ⟨ho, hn', hi, hm⟩⟩ rfl _ P4.out.1.2 ?_))
  have e1 := P4.out.1.2.set ⟨c, k, nm, (none, 0, 0), ⟨ho, hn', hi, hm⟩⟩
  have e2 := P4.out.1.2.setB P4.out.2.1 (by have := HB.out; omega) (enc ⟨c, k, nm, (none, 0, 0), ⟨ho, hn', hi, hm⟩⟩)
  refine bodyPost_ret (v := env ⟨c, k, nm, (none, 0, 0), ⟨ho, hn', hi, hm⟩⟩) ?_ rfl ⟨rfl, e2⟩
  exact res_en rfl _ _ (B + 1) _ rfl e1

/-- What Get answers. -/
def getP (R : Ro) (c : ByteArray) : En × Nat × Ro := if thr (ofE R c) = true then (ofE R c, 0, R) else (en0 ⟨#[]⟩, 7, R)
def getS (R : Ro) (s : ByteArray) : En × Nat × Ro := if prepE s = 0 then getP R (prepB s) else (en0 ⟨#[]⟩, prepE s, R)
set_option maxHeartbeats 800000 in
theorem get_any (w : World) (q mb : Nat) (R : Ro) (h : RA w q mb R) (hG : RG R) (c : ByteArray) (hc : c.size ≤ 1000000) (hg0 : ∀ c, (ofE R c).g = (none, 0, 0) ∧ (ofE R c).nm.size ≤ 1000000) :
    Calls Tryz.prog 72 #[.pointer (some ⟨q, 0, none⟩), .string c] w fun e w' => GaveV (getP R c).2.1 (.agg (enc (getP R c).1)) e ∧ RA w' q mb (getP R c).2.2 ∧ Keep (fun j => j = q ∨ j = mb) w w' := by
  have hxc : (ofE R c).c.size ≤ 1000000 := by rw [hG.of]; exact hc
  have cO := of_any (w.alloc (.cells #[.string ⟨#[]⟩, .bool false, .string ⟨#[]⟩, .slice none 0 0, .int .i64 0, .int .u64 0, .int .i64 0, .int .u64 0] 51)) q mb R (h.below (below1 _ _)) c hc
  have cC := fun w => copied_any (ofE R c) hxc (hg0 c).2 (hg0 c).1 w
  have cI := fun w => isThere_any (ofE R c) w
  have cI2 : ∀ v, thr (ofE R c) = v → ∀ w, Calls Tryz.prog 101 #[env (ofE R c)] w fun e w' => e = .returned (.bool v) ∧ Below w.heap.size w w' := fun v e w => by rw [← e]; exact cI w
  clear cI
  have HR : Hid (RA w q mb R) := h
  have hz : EnAt (w.alloc (.cells #[.string ⟨#[]⟩, .bool false, .string ⟨#[]⟩, .slice none 0 0, .int .i64 0, .int .u64 0, .int .i64 0, .int .u64 0] 51)) w.heap.size (en0 ⟨#[]⟩) := push_at _ _ rfl
  unfold getP
  generalize ofE R c = x at *
  have h0b : Below w.heap.size w (w.alloc (.cells #[.string ⟨#[]⟩, .bool false, .string ⟨#[]⟩, .slice none 0 0, .int .i64 0, .int .u64 0, .int .i64 0, .int .u64 0] 51)) := below1 _ _
  have HZ : Hid (EnAt (w.alloc (.cells #[.string ⟨#[]⟩, .bool false, .string ⟨#[]⟩, .slice none 0 0, .int .i64 0, .int .u64 0, .int .i64 0, .int .u64 0] 51)) w.heap.size (en0 ⟨#[]⟩) ∧ Below w.heap.size w (w.alloc (.cells #[.string ⟨#[]⟩, .bool false, .string ⟨#[]⟩, .slice none 0 0, .int .i64 0, .int .u64 0, .int .i64 0, .int .u64 0] 51))) := ⟨hz, h0b⟩
  clear hz h0b h hG hc hg0 hxc
  obtain ⟨V, HV⟩ : ∃ V, Hid (env x = V) := ⟨_, rfl⟩
  cases ht : thr x with
  | true =>
    have cI := cI2 true ht
    have cD := fun w => demR_ok 7 w
    clear ht cI2
    rw [if_pos rfl]
    dsimp only
    rw [show Value.agg (enc x) = V from HV.out]
    rw [show env x = .agg (enc x) from rfl] at cO
    unfold enc gsv at cO
    go_enter Tryz.func72, Tryz.ntmps72
    go_upto_region 2 with (first
      | (go_at_call 92; refine cO.mono ?_; clear cO; rintro e w1 ⟨rfl, hb1⟩))
    have A1 : Hid (EnAt (w1.alloc (.cells (enc x) 51)) w1.heap.size x ∧ EnAt (w1.alloc (.cells (enc x) 51)) w.heap.size (en0 ⟨#[]⟩) ∧ Below w.heap.size w (w1.alloc (.cells (enc x) 51)) ∧ w.heap.size < w1.heap.size) := by
      have l1 := HZ.out.1.lt
      have l2 := hb1.size
      exact ⟨EnAt.made _ _, (HZ.out.1.carry hb1).carry (below1 _ _), ((HZ.out.2.trans (hb1.mono (by have := HZ.out.2.size; omega))).alloc (by omega) _), by omega⟩
    unfold enc gsv at A1
    clear hb1
    obtain ⟨B, HB⟩ : ∃ B, Hid (w1.heap.size = B) := ⟨_, rfl⟩
    rw [HB.out] at A1 ⊢
    generalize w1.alloc _ = W at A1 ⊢
    have tk : True := trivial
    go_upto_region 3 with (first
      | (refine wp_load_en rfl (.tmp 5) rfl B rfl x A1.out.1 ?_)
      | (go_at_call 101; refine (cI _).mono ?_; clear cI; rintro e w2 ⟨rfl, hb2⟩)
      | (go_at_call 69; refine (cD _).mono ?_; clear cD; rintro e w3 ⟨rfl, hw3⟩; replace hw3 := hw3.symm; subst hw3))
    have A2 : Hid (EnAt w2 B x ∧ EnAt w2 w.heap.size (en0 ⟨#[]⟩) ∧ Below w.heap.size w w2 ∧ w.heap.size < B) := ⟨A1.out.1.carry hb2, A1.out.2.1.carry hb2, A1.out.2.2.1.trans (hb2.mono (by have := A1.out.2.2.1.size; omega)), A1.out.2.2.2⟩
    clear hb2
    go_wp2_with (first
      | (refine wp_load_en rfl (.tmp 5) rfl B rfl x A2.out.1 ?_)
      | (go_at_call 81; refine (cC _).mono ?_; clear cC; rintro e w5 ⟨rfl, hb5⟩; have A3 : EnAt w5 w.heap.size (en0 ⟨#[]⟩) := A2.out.2.1.carry hb5)
      | (refine wp_store_en rfl (.tmp 4) (.tmp 13) rfl w.heap.size rfl x rfl _ A3 ?_))
    have e1 := A3.set x
    have hbl : Below w.heap.size w w5 := A2.out.2.2.1.trans (hb5.mono (by have := A2.out.2.2.1.size; omega))
    have e2 := A3.setB hbl (Nat.le_refl _) (enc x)
    refine bodyPost_ret (v := env x) ?_ rfl ⟨gv_ok (by rw [← HV.out]), HR.out.below e2, Keep.ofBelow e2⟩
    exact res_en rfl _ _ w.heap.size _ rfl e1
  | false =>
    have cI := cI2 false ht
    have cD := fun w => demR_no 7 w
    clear ht cI2 cC
    rw [if_neg (by decide)]
    rw [show env x = .agg (enc x) from rfl] at cO
    unfold enc gsv at cO
    go_enter Tryz.func72, Tryz.ntmps72
    go_upto_region 2 with (first
      | (go_at_call 92; refine cO.mono ?_; clear cO; rintro e w1 ⟨rfl, hb1⟩))
    have A1 : Hid (EnAt (w1.alloc (.cells (enc x) 51)) w1.heap.size x ∧ Below w.heap.size w (w1.alloc (.cells (enc x) 51))) := by
      have l1 := HZ.out.1.lt
      have l2 := hb1.size
      exact ⟨EnAt.made _ _, ((HZ.out.2.trans (hb1.mono (by have := HZ.out.2.size; omega))).alloc (by omega) _)⟩
    unfold enc gsv at A1
    clear hb1
    generalize w1.alloc _ = W at A1 ⊢
    go_wp2_with (first
      | (refine wp_load_en rfl (.tmp 5) rfl w1.heap.size rfl x A1.out.1 ?_)
      | (go_at_call 101; refine (cI _).mono ?_; clear cI; rintro e w2 ⟨rfl, hb2⟩)
      | (go_at_call 69; refine (cD _).mono ?_; clear cD; rintro e w3 ⟨rfl, hw3⟩; replace hw3 := hw3.symm; subst hw3))
    have e2 : Below w.heap.size w w2 := A1.out.2.trans (hb2.mono (by have := A1.out.2.size; omega))
    exact ⟨rfl, gv_no (show (7 : Nat) ≠ 0 by decide) rfl, HR.out.below e2, Keep.ofBelow e2⟩
end Go.Proofs.YtppdopcghnfapaaGreatDoor

/- roster: slices of texts, and copies of them. -/
set_option maxRecDepth 100000
namespace Go.Proofs.YtppdopcghnfapaaGreatDoor
open Go.RowKit Go.Joins

/-- What a slice of texts reads as. -/
structure GRd (w : World) (a : Option Addr) (n c : Nat) (ss : List ByteArray) : Prop where
  len : ss.length = n
  cap : n ≤ c
  most : c ≤ maxLen
  flat : 0 < n → ∃ b off, a = some ⟨b, off, none⟩ ∧ ∀ j, j < n → w.cell? ⟨b, off + j, none⟩ = some (.string (ss.getD j ⟨#[]⟩))
theorem GRd.below {w w' : World} {a : Option Addr} {n c : Nat} {ss : List ByteArray} (h : GRd w a n c ss) (hb : Below w.heap.size w w') : GRd w' a n c ss := by
  refine ⟨h.len, h.cap, h.most, fun h0 => ?_⟩
  obtain ⟨b, off, e, hc⟩ := h.flat h0
  exact ⟨b, off, e, fun j hj => (hb.cell (World.block_lt_of_cell? w _ (hc j hj))).trans (hc j hj)⟩
def tx (ss : List ByteArray) : List Value := ss.map Value.string

theorem infoStrT : (Tryz.prog.info? 9).map (fun i => (i.zero, i.size, i.bytes)) = some (some (.string ByteArray.empty), 1, 16) := by kernel_rfl
theorem run_appT {w : World} (ty : TypeId) {base : Nat} {v : Value} {n : Nat} {xs : List Value} (hown : w.ownsRow base 9 1 v n xs) (y : ByteArray) (hn : n ≤ 1000000) (hbase : base ≤ w.heap.size) :
    ∃ v' w', (Builtin.append_ #[32, 32] ty #[v, .slice (some ⟨w.heap.size, 0, none⟩) 1 1]).run Tryz.prog (w.alloc (.cells #[.string y] 9)) = .ok v' w' ∧ w'.ownsRow base 9 1 v' (n + 1) (xs ++ [.string y]) ∧ Keep (fun k => v.ownBlock = some k) w w' := by
  obtain ⟨i0, hi, hz0, hz1, hz2⟩ := info_parts infoStrT
  have hk0 : Keep (fun k => v.ownBlock = some k) w (w.alloc (.cells #[.string y] 9)) := (Keep.refl _ _).alloc _
  have hown1 := own_keep (S := fun _ => False) hown ((Keep.refl (fun _ => False) w).alloc (.cells #[.string y] 9)) (fun _ _ h => h)
  obtain ⟨v', w', hrun, h2, h3, _⟩ := run_append_own (P := Tryz.prog) (w.alloc (.cells #[.string y] 9)) base 32 ty 9 i0 (.string ByteArray.empty) 1 16 Tryz.underlying32 hi hz0 hz1 hz2 rfl (by decide) v n xs hown1 ⟨w.heap.size, 0, none⟩ 1 1 [.string y] (by simp) (fun j u hu => by
    rw [add_flat, Nat.zero_add, cell_of_block (alloc_at w (.cells #[.string y] 9))]
    simpa using hu) (by simp [Value.oneCell']) (by unfold maxLen; omega) (by omega) (by simp; omega)
  exact ⟨v', w', hrun, h2, hk0.trans (Keep.ofGrown h3)⟩
theorem wp_appT {w : World} {ops : Array Oper} {rest : List Oper} {o : Oper} {a : Act} {Q : Exit → Act → World → Prop} (hgd : o.guard = none) (s x : Operand)
    (ho : o.op = .call { callee := .builtin .append, args := #[s, x], argTypes := #[32, 32] })
    (base : Nat) (v : Value) (n : Nat) (xs : List Value) (hs : a.eval s = v) (hown : w.ownsRow base 9 1 v n xs) (y : ByteArray)
    (hx : a.eval x = .slice (some ⟨w.heap.size, 0, none⟩) 1 1) (hn : n ≤ 1000000) (hbase : base ≤ w.heap.size)
    (h : ∀ v' w', w'.ownsRow base 9 1 v' (n + 1) (xs ++ [.string y]) → Keep (fun k => v.ownBlock = some k) w w' → wpList Tryz.prog ops Q rest (a.put o.dst v') w') : wpList Tryz.prog ops Q (o :: rest) a (w.alloc (.cells #[.string y] 9)) := by
  refine wpList_plain hgd fun K hK => ?_
  obtain ⟨v', w', hrun, h2, h3⟩ := run_appT o.type hown y hn hbase
  unfold Oper.wp
  simp only [execOp, ho, resolve, invoke, builtin, Sem.run_bind, Sem.run_pure, Result.andThen_ok, List.map_toArray, List.map_cons, List.map_nil, hs, hx, hrun]
  exact hK _ _ (h v' w' h2 h3)

theorem ownT_sl {W : World} {lo n sz : Nat} {e : TypeId} {v : Value} {xs : List Value} (h : W.ownsRow lo e sz v n xs) : ∃ a c, v = .slice a n c := by
  rcases h.2 with ⟨rfl, rfl⟩ | ⟨g, cap, cur, rfl, _⟩
  · exact ⟨none, 0, rfl⟩
  · exact ⟨_, _, rfl⟩
set_option maxHeartbeats 2000000 in
/-- Copies of texts, in new memory. -/
theorem texts_any (a : Option Addr) (n c : Nat) (ss : List ByteArray) (w : World) (hR : GRd w a n c ss) (hn : n ≤ 100000) (hs : ∀ s ∈ ss, s.size ≤ 281474976710656) :
    Calls Tryz.prog 110 #[.slice a n c] w fun e w' => ∃ v, e = .returned v ∧ w'.ownsRow w.heap.size 9 1 v n (tx ss) ∧ Below w.heap.size w w' := by
  have Hn : Hid (ss.length = n) := hR.len
  go_enter Tryz.func110, Tryz.ntmps110
  go_upto_region 3 with fail
  go_loopw [3, 5, 8] (fun s3 _ s8 wr => ∃ (j : Nat) (v : Value), s3 = v ∧ s8 = .int .i64 j ∧ j ≤ n ∧ Hid (wr.ownsRow w.heap.size 9 1 v j (tx (ss.take j))) ∧ Hid (Below w.heap.size w wr)) (fun _ _ s8 _ => n - (intOf s8).toNat)
  case atStart =>
    refine ⟨0, _, rfl, rfl, by omega, ?_, Below.refl _ _⟩
    exact World.ownsRow_nil _ _ _ _
  case round =>
    obtain ⟨j, v, rfl, rfl, hjn, HR, HB⟩ := hrel
    by_cases hlt : j < n
    · have hcl : (j : Int) < (n : Int) := by omega
      obtain ⟨b, off, rfl, hce⟩ := (hR.below HB.out).flat (by omega)
      have hcj := hce j hlt
      clear hce
      obtain ⟨y, hy⟩ : ∃ y, ss[j]? = some y := ⟨_, List.getElem?_eq_getElem (by rw [Hn.out]; exact hlt)⟩
      rw [show ss.getD j ⟨#[]⟩ = y by rw [List.getD_eq_getElem?_getD, hy]; rfl] at hcj
      have hys := hs y (List.mem_of_getElem? hy)
      have HTk : Hid (tx (ss.take (j + 1)) = tx (ss.take j) ++ [.string y]) := by
        show _ = _
        unfold tx
        rw [List.take_add_one, hy, List.map_append]
        rfl
      have ov := HR.out
      obtain ⟨av, cv, hv⟩ := ownT_sl ov
      subst hv
      clear hy
      go_wp2_with (first
        | (go_at_call 93; refine (clone_any y wr hys).mono ?_; rintro e w5 ⟨rfl, hb5⟩; have ov5 := own_keep (S := fun _ => False) ov (Keep.ofBelow hb5) (fun _ _ h => h))
        | (at_builtin; refine wp_appT rfl (.tmp 12) (.tmp 15) rfl w.heap.size (.slice av j cv) j (tx (ss.take j)) rfl ov5 y rfl (by omega) (by have := HB.out.size; have := hb5.size; omega) ?_; intro v6 w6 o6 hk6))
      have h0s := HB.out.size
      have hB5 : Below w.heap.size w w5 := HB.out.trans (hb5.mono h0s)
      have hB6 : Below w.heap.size w w6 := hB5.trans (hk6.below hB5.size (fun g hg => (ov.lt g hg).1))
      exact ⟨⟨j + 1, _, rfl, by go_num, by omega, by show World.ownsRow _ _ _ _ _ _ _; rw [HTk.out]; exact o6, hB6⟩, by simp [intOf]; omega⟩
    · have hcl : ¬ (j : Int) < (n : Int) := by omega
      obtain rfl : j = n := by omega
      have hR9 := HR.out
      rw [List.take_of_length_le (by rw [Hn.out]; exact Nat.le_refl _)] at hR9
      go_wp2
      go_ret
      exact ⟨_, rfl, hR9, HB.out⟩
end Go.Proofs.YtppdopcghnfapaaGreatDoor

/- roster: may an item have such a name, such groups? -/
set_option maxRecDepth 100000
namespace Go.Proofs.YtppdopcghnfapaaGreatDoor
open Go.RowKit Go.Joins

def textE (s : ByteArray) : Nat := if 64 < s.size then 5 else if Lib.validD s.data.toList = false then 4 else 0
def groupE (s : ByteArray) : Nat := if textE s ≠ 0 then textE s else if s.size = 0 then 4 else 0
def firstG : List ByteArray → Nat
  | [] => 0
  | s :: r => if groupE s ≠ 0 then groupE s else firstG r
def groupsE (ss : List ByteArray) : Nat := if 8 < ss.length then 5 else firstG ss
theorem firstG_bad (r : List ByteArray) : ∀ (ps : List ByteArray), (∀ p ∈ ps, groupE p = 0) → ∀ s, groupE s ≠ 0 → firstG (ps ++ s :: r) = groupE s
  | [], _, s, hs => by rw [List.nil_append, firstG, if_pos hs]
  | p :: ps, h, s, hs => by rw [List.cons_append, firstG, if_neg (fun e => e (h p (by simp))), firstG_bad r ps (fun q hq => h q (by simp [hq])) s hs]
theorem firstG_all : ∀ (ps : List ByteArray), (∀ p ∈ ps, groupE p = 0) → firstG ps = 0
  | [], _ => rfl
  | p :: ps, h => by rw [firstG, if_neg (fun e => e (h p (by simp))), firstG_all ps (fun q hq => h q (by simp [hq]))]
theorem firstG_ok : ∀ {ss : List ByteArray}, firstG ss = 0 → ∀ s ∈ ss, groupE s = 0
  | [], _, s, h => by cases h
  | p :: r, h, s, hs => by
    rw [firstG] at h
    by_cases hp : groupE p = 0
    · rw [if_neg (fun e => e hp)] at h
      rcases List.mem_cons.1 hs with e | e
      · rw [e]; exact hp
      · exact firstG_ok h s e
    · rw [if_pos hp] at h; exact absurd h hp
set_option maxHeartbeats 800000 in
theorem checkText_any (s : ByteArray) (w : World) (hs : s.size ≤ 281474976710656) (hT : Lib.Utf8Tabs 2 3 w) :
    Calls Tryz.prog 89 #[.string s] w fun e w' => GaveV (textE s) (.tuple #[]) e ∧ Below w.heap.size w w' := by
  have cV := fun w' (hb : Below w.heap.size w w') => Nm.validString_any s w' (by omega) (tabs_bel hT hb)
  have cO := fun n w => demR_ok n w
  have cN := fun n w => demR_no n w
  unfold textE
  clear hT
  by_cases h1 : 64 < s.size
  · rw [if_pos h1]
    have hd : decide ((s.size : Int) ≤ 64) = false := by simp; omega
    clear h1 cV cO
    go_enter Tryz.func89, Tryz.ntmps89
    go_wp2_with (go_at_call 69; refine (cN 5 _).mono ?_; rintro e w1 ⟨rfl, hw1⟩; replace hw1 := hw1.symm; subst hw1)
    exact ⟨rfl, gv_no (by decide) rfl, Below.refl _ _⟩
  · rw [if_neg h1]
    have hd : decide ((s.size : Int) ≤ 64) = true := by simp; omega
    have cV0 := cV w (Below.refl _ _)
    have t1 : True := trivial
    generalize Lib.validD s.data.toList = V at cV0 ⊢
    clear h1 cV
    cases V with
    | true =>
      rw [if_neg (by decide)]
      clear cN
      go_enter Tryz.func89, Tryz.ntmps89
      go_wp2_with (first
        | (go_at_call 69; clear t1; refine (cO 5 _).mono ?_; rintro e w1 ⟨rfl, hw1⟩; replace hw1 := hw1.symm; subst hw1)
        | (go_at_call 114; refine cV0.mono ?_; clear cV0; rintro e w2 ⟨rfl, hb⟩)
        | (go_at_call 69; refine (cO 4 _).mono ?_; rintro e w1 ⟨rfl, hw1⟩; replace hw1 := hw1.symm; subst hw1))
      go_end0
      exact ⟨gv_ok rfl, hb⟩
    | false =>
      rw [if_pos rfl]
      go_enter Tryz.func89, Tryz.ntmps89
      go_wp2_with (first
        | (go_at_call 69; clear t1; refine (cO 5 _).mono ?_; rintro e w1 ⟨rfl, hw1⟩; replace hw1 := hw1.symm; subst hw1)
        | (go_at_call 114; refine cV0.mono ?_; clear cV0; rintro e w2 ⟨rfl, hb⟩)
        | (go_at_call 69; refine (cN 4 _).mono ?_; rintro e w1 ⟨rfl, hw1⟩; replace hw1 := hw1.symm; subst hw1))
      exact ⟨rfl, gv_no (by decide) rfl, hb⟩
end Go.Proofs.YtppdopcghnfapaaGreatDoor

/- roster: may an item have such groups? -/
set_option maxRecDepth 100000
namespace Go.Proofs.YtppdopcghnfapaaGreatDoor
open Go.RowKit Go.Joins

theorem firstG_take {ss : List ByteArray} {j : Nat} {y : ByteArray} (hy : ss[j]? = some y) (hp : ∀ p ∈ ss.take j, groupE p = 0) (h : groupE y ≠ 0) : firstG ss = groupE y := by
  have e := List.getElem?_eq_some_iff.1 hy
  have e1 : ss = ss.take j ++ y :: ss.drop (j + 1) := by
    rw [← e.2]
    exact (List.take_append_drop j ss).symm.trans (by rw [List.drop_eq_getElem_cons e.1])
  rw [e1]
  exact firstG_bad (ss.drop (j + 1)) (ss.take j) hp y h
theorem groupE_text {y : ByteArray} (h : textE y ≠ 0) : groupE y = textE y := by unfold groupE; rw [if_pos h]
theorem groupE_none {y : ByteArray} (h : textE y = 0) (h2 : y.size = 0) : groupE y = 4 := by unfold groupE; rw [if_neg (fun e => e h), if_pos h2]
theorem groupE_good {y : ByteArray} (h : textE y = 0) (h2 : y.size ≠ 0) : groupE y = 0 := by unfold groupE; rw [if_neg (fun e => e h), if_neg h2]
theorem size_none {y : ByteArray} (h : y.size = 0) : y = ⟨#[]⟩ := by
  apply ByteArray.ext
  exact Array.eq_empty_of_size_eq_zero h
set_option maxHeartbeats 1600000 in
theorem checkGroups_any (a : Option Addr) (n c : Nat) (ss : List ByteArray) (w : World) (hR : GRd w a n c ss) (hn : n ≤ 100000) (hs : ∀ s ∈ ss, s.size ≤ 281474976710656) (hT : Lib.Utf8Tabs 2 3 w) :
    Calls Tryz.prog 90 #[.slice a n c] w fun e w' => GaveV (groupsE ss) (.tuple #[]) e ∧ Below w.heap.size w w' := by
  have Hn : Hid (ss.length = n) := hR.len
  have HT : Hid (Lib.Utf8Tabs 2 3 w) := hT
  clear hT
  unfold groupsE
  rw [hR.len]
  by_cases h8 : 8 < n
  · rw [if_pos h8]
    have hd : decide ((n : Int) ≤ 8) = false := by simp; omega
    clear h8
    go_enter Tryz.func90, Tryz.ntmps90
    go_wp2_with (go_at_call 69; refine (demR_no 5 _).mono ?_; rintro e w1 ⟨rfl, hw1⟩; replace hw1 := hw1.symm; subst hw1)
    exact ⟨rfl, gv_no (by decide) rfl, Below.refl _ _⟩
  · rw [if_neg h8]
    have hd : decide ((n : Int) ≤ 8) = true := by simp; omega
    clear h8
    go_enter Tryz.func90, Tryz.ntmps90
    go_upto_region 2 with (first | (go_at_call 69; refine (demR_ok 5 _).mono ?_; rintro e w1 ⟨rfl, hw1⟩; replace hw1 := hw1.symm; subst hw1))
    clear hd
    go_loopw [3, 10] (fun _ s10 wr => ∃ j : Nat, s10 = .int .i64 j ∧ j ≤ n ∧ Hid (∀ p ∈ ss.take j, groupE p = 0) ∧ Hid (Below w.heap.size w wr)) (fun _ s10 _ => n - (intOf s10).toNat)
    case atStart => exact ⟨0, rfl, by omega, fun p hp => by simp at hp, Below.refl _ _⟩
    case round =>
      obtain ⟨j, rfl, hjn, HP, HB⟩ := hrel
      by_cases hlt : j < n
      · have hcl : (j : Int) < (n : Int) := by omega
        obtain ⟨b, off, rfl, hce⟩ := (hR.below HB.out).flat (by omega)
        have hcj := hce j hlt
        clear hce
        obtain ⟨y, hy⟩ : ∃ y, ss[j]? = some y := ⟨_, List.getElem?_eq_getElem (by rw [Hn.out]; exact hlt)⟩
        rw [show ss.getD j ⟨#[]⟩ = y by rw [List.getD_eq_getElem?_getD, hy]; rfl] at hcj
        have hys := hs y (List.mem_of_getElem? hy)
        have HY : Hid (ss[j]? = some y) := hy
        clear hy
        have cT := checkText_any y wr hys (tabs_bel HT.out HB.out)
        have hsz := HB.out.size
        by_cases h1 : textE y = 0
        · rw [h1] at cT
          have cT1 : Calls Tryz.prog 89 #[.string y] wr fun e w' => e = .returned (.tuple #[]) ∧ Below wr.heap.size wr w' := cT.mono (fun e w' h => by
            rcases h.1 with ⟨_, h2⟩ | ⟨h2, _⟩
            · exact ⟨h2, h.2⟩
            · exact absurd rfl h2)
          clear cT
          by_cases h2 : y.size = 0
          · have hE : Hid (firstG ss = 4) := by
              show _ = _
              rw [firstG_take HY.out HP.out (by rw [groupE_none h1 h2]; decide), groupE_none h1 h2]
            have e0 := size_none h2
            clear h1 h2 HY hys
            subst e0
            go_wp2_with (first
              | (go_at_call 89; refine cT1.mono ?_; clear cT1; rintro e w5 ⟨rfl, hb5⟩)
              | (go_at_call 69; refine (demR_no 4 _).mono ?_; rintro e w6 ⟨rfl, hw6⟩; replace hw6 := hw6.symm; subst hw6))
            exact ⟨rfl, by rw [hE.out]; exact gv_no (by decide) rfl, HB.out.trans (hb5.mono hsz)⟩
          · have hG : Hid (∀ p ∈ ss.take (j + 1), groupE p = 0) := fun p hp => by
              rw [List.take_add_one, HY.out] at hp
              rcases List.mem_append.1 hp with q | q
              · exact HP.out p q
              · have : p = y := by simpa using q
                rw [this]; exact groupE_good h1 h2
            have hne : y.toList.isEmpty = false := by
              rw [ByteArray.toList_eq, List.isEmpty_eq_false_iff]
              intro e
              apply h2
              have : y.data.toList.length = 0 := by rw [e]; rfl
              simpa using this
            clear h1 h2 HY hys HP
            go_wp2_with (first
              | (go_at_call 89; refine cT1.mono ?_; clear cT1; rintro e w5 ⟨rfl, hb5⟩)
              | (go_at_call 69; refine (demR_ok 4 _).mono ?_; rintro e w6 ⟨rfl, hw6⟩; replace hw6 := hw6.symm; subst hw6))
            exact ⟨⟨j + 1, by go_num, by omega, hG, HB.out.trans (hb5.mono hsz)⟩, by simp [intOf]; omega⟩
        · have cT1 : Calls Tryz.prog 89 #[.string y] wr fun e w' => e = .panicked (gaveR (textE y)) ∧ Below wr.heap.size wr w' := cT.mono (fun e w' h => by
            rcases h.1 with ⟨h2, _⟩ | ⟨_, h2⟩
            · exact absurd h2 h1
            · exact ⟨h2, h.2⟩)
          have hE : Hid (firstG ss = textE y) := by
            show _ = _
            rw [firstG_take HY.out HP.out (by rw [groupE_text h1]; exact h1), groupE_text h1]
          clear cT HY hys HP
          generalize textE y = t at cT1 h1 hE
          go_wp2_with (first
            | (go_at_call 89; refine cT1.mono ?_; clear cT1; rintro e w5 ⟨rfl, hb5⟩))
          exact ⟨rfl, by rw [hE.out]; exact gv_no h1 rfl, HB.out.trans (hb5.mono hsz)⟩
      · have hcl : ¬ (j : Int) < (n : Int) := by omega
        obtain rfl : j = n := by omega
        have hall := HP.out
        rw [List.take_of_length_le (by rw [Hn.out]; exact Nat.le_refl _)] at hall
        have hE : Hid (firstG ss = 0) := firstG_all ss hall
        clear hall
        go_wp2
        go_end0
        exact ⟨by rw [hE.out]; exact gv_ok rfl, HB.out⟩
end Go.Proofs.YtppdopcghnfapaaGreatDoor

/-
  DERIVED: THE SHELF's CONTRACTS AT THIS DUMP, IN PLAIN WORDS (tools/lay-plain.mjs out of 'ShelfSrcNow.lean', which tools/lay-shelf.mjs wrote): THE SAME DECLARATIONS UNDER THE SAME NAMES: 'import', 'namespace', 'open', 'def', 'theorem' AND NOTHING ELSE: no command of the shelf's: FOR A HAND-IN. Each laying: the table of numbers ('.._ren') and one theorem, a field a fact of the dump's own or the kernel's comparison; each contract: ONE APPLICATION.
-/
namespace Go.Proofs
open Go.Shelf
def Tryz.sortZ_ren : Go.Shelf.Ren := ⟨fun | 6 => 107 | 8 => 112 | 9 => 127 | 19 => 137 | 20 => 138 | 21 => 157 | 22 => 158 | 23 => 159 | 24 => 160 | 25 => 161 | 26 => 162 | 27 => 163 | 28 => 164 | 29 => 165 | 36 => 178 | 31 => 167 | 32 => 168 | 37 => 179 | 38 => 180 | 39 => 181 | 41 => 185 | n => n, fun | 27 => 32 | 29 => 9 | 3 => 3 | 32 => 144 | 26 => 32 | 0 => 0 | 44 => 165 | 46 => 33 | 4 => 4 | 36 => 159 | 35 => 158 | 41 => 139 | 5 => 5 | 9 => 9 | 53 => 190 | 57 => 193 | 63 => 206 | 64 => 86 | n => n, fun | n => n⟩
theorem Tryz.sortZ : Go.Proofs.SlLaysM.n6 Tryz.prog Tryz.sortZ_ren := {
  mixed := by kernel_rfl
  f6 := ⟨Tryz.f107.name, by decide, Tryz.func107.trans (congrArg some (by kernel_rfl))⟩
  f8 := Tryz.func112.trans (congrArg some (by kernel_rfl))
  f9 := ⟨Tryz.f127.name, by decide, Tryz.func127.trans (congrArg some (by kernel_rfl))⟩
  f19 := Tryz.func137.trans (congrArg some (by kernel_rfl))
  f20 := Tryz.func138.trans (congrArg some (by kernel_rfl))
  f21 := ⟨Tryz.f157.name, by decide, Tryz.func157.trans (congrArg some (by kernel_rfl))⟩
  f22 := ⟨Tryz.f158.name, by decide, Tryz.func158.trans (congrArg some (by kernel_rfl))⟩
  f23 := ⟨Tryz.f159.name, by decide, Tryz.func159.trans (congrArg some (by kernel_rfl))⟩
  f24 := ⟨Tryz.f160.name, by decide, Tryz.func160.trans (congrArg some (by kernel_rfl))⟩
  f25 := ⟨Tryz.f161.name, by decide, Tryz.func161.trans (congrArg some (by kernel_rfl))⟩
  f26 := ⟨Tryz.f162.name, by decide, Tryz.func162.trans (congrArg some (by kernel_rfl))⟩
  f27 := ⟨Tryz.f163.name, by decide, Tryz.func163.trans (congrArg some (by kernel_rfl))⟩
  f28 := ⟨Tryz.f164.name, by decide, Tryz.func164.trans (congrArg some (by kernel_rfl))⟩
  f29 := ⟨Tryz.f165.name, by decide, Tryz.func165.trans (congrArg some (by kernel_rfl))⟩
  f31 := Tryz.func167.trans (congrArg some (by kernel_rfl))
  f32 := Tryz.func168.trans (congrArg some (by kernel_rfl))
  f36 := ⟨Tryz.f178.name, by decide, Tryz.func178.trans (congrArg some (by kernel_rfl))⟩
  f37 := ⟨Tryz.f179.name, by decide, Tryz.func179.trans (congrArg some (by kernel_rfl))⟩
  f38 := ⟨Tryz.f180.name, by decide, Tryz.func180.trans (congrArg some (by kernel_rfl))⟩
  f39 := ⟨Tryz.f181.name, by decide, Tryz.func181.trans (congrArg some (by kernel_rfl))⟩
  f41 := ⟨Tryz.f185.name, by decide, Tryz.func185.trans (congrArg some (by kernel_rfl))⟩
  t0 := Tryz.underlying0
  a0 := Tryz.isAgg0
  z0 := Tryz.sizeOf0
  v0 := Tryz.zeroValue0
  t3 := Tryz.underlying3
  a3 := Tryz.isAgg3
  z3 := Tryz.sizeOf3
  v3 := Tryz.zeroValue3
  t4 := Tryz.underlying4
  a4 := Tryz.isAgg4
  z4 := Tryz.sizeOf4
  v4 := Tryz.zeroValue4
  t5 := Tryz.underlying5
  a5 := Tryz.isAgg5
  z5 := Tryz.sizeOf5
  v5 := Tryz.zeroValue5
  t9 := Tryz.underlying9
  a9 := Tryz.isAgg9
  z9 := Tryz.sizeOf9
  v9 := Tryz.zeroValue9
  t26 := Tryz.underlying32
  a26 := Tryz.isAgg32
  z26 := Tryz.sizeOf32
  v26 := Tryz.zeroValue32
  t27 := Tryz.underlying32
  a27 := Tryz.isAgg32
  z27 := Tryz.sizeOf32
  v27 := Tryz.zeroValue32
  t29 := Tryz.underlying9
  a29 := Tryz.isAgg9
  z29 := Tryz.sizeOf9
  v29 := Tryz.zeroValue9
  t32 := Tryz.underlying144
  a32 := Tryz.isAgg144
  z32 := Tryz.sizeOf144
  v32 := Tryz.zeroValue144
  t35 := Tryz.underlying158
  a35 := Tryz.isAgg158
  z35 := Tryz.sizeOf158
  v35 := Tryz.zeroValue158
  t36 := Tryz.underlying159
  a36 := Tryz.isAgg159
  z36 := Tryz.sizeOf159
  v36 := Tryz.zeroValue159
  t41 := Tryz.underlying139
  a41 := Tryz.isAgg139
  z41 := Tryz.sizeOf139
  v41 := Tryz.zeroValue139
  t44 := Tryz.underlying165
  a44 := Tryz.isAgg165
  z44 := Tryz.sizeOf165
  v44 := Tryz.zeroValue165
  t46 := Tryz.underlying33
  a46 := Tryz.isAgg33
  z46 := Tryz.sizeOf33
  v46 := Tryz.zeroValue33
  t53 := Tryz.underlying190
  a53 := Tryz.isAgg190
  z53 := Tryz.sizeOf190
  v53 := Tryz.zeroValue190
  t57 := Tryz.underlying193
  a57 := Tryz.isAgg193
  z57 := Tryz.sizeOf193
  v57 := Tryz.zeroValue193
  t63 := Tryz.underlying206
  a63 := Tryz.isAgg206
  z63 := Tryz.sizeOf206
  v63 := Tryz.zeroValue206
  t64 := Tryz.underlying86
  a64 := Tryz.isAgg86
  z64 := Tryz.sizeOf86
  v64 := Tryz.zeroValue86 }
def Tryz.sortFZ_ren : Go.Shelf.Ren := ⟨fun | 6 => 85 | 15 => 112 | 14 => 111 | 28 => 137 | 29 => 138 | 20 => 129 | 21 => 130 | 22 => 131 | 23 => 132 | 24 => 133 | 25 => 134 | 26 => 135 | 27 => 136 | 46 => 166 | 47 => 167 | 48 => 168 | 49 => 169 | 50 => 170 | 57 => 182 | n => n, fun | 22 => 38 | 24 => 51 | 25 => 125 | 3 => 3 | 39 => 144 | 0 => 0 | 53 => 165 | 55 => 33 | 4 => 4 | 46 => 159 | 45 => 158 | 50 => 139 | 5 => 5 | 9 => 9 | 66 => 190 | 70 => 193 | 76 => 206 | 77 => 86 | n => n, fun | n => n⟩
theorem Tryz.sortFZ : Go.Proofs.SlLaysF0.n6 Tryz.prog Tryz.sortFZ_ren := {
  mixed := by kernel_rfl
  f6 := ⟨Tryz.f85.name, by decide, Tryz.func85.trans (congrArg some (by kernel_rfl))⟩
  f14 := ⟨Tryz.f111.name, by decide, Tryz.func111.trans (congrArg some (by kernel_rfl))⟩
  f15 := Tryz.func112.trans (congrArg some (by kernel_rfl))
  f20 := ⟨Tryz.f129.name, by decide, Tryz.func129.trans (congrArg some (by kernel_rfl))⟩
  f21 := ⟨Tryz.f130.name, by decide, Tryz.func130.trans (congrArg some (by kernel_rfl))⟩
  f22 := ⟨Tryz.f131.name, by decide, Tryz.func131.trans (congrArg some (by kernel_rfl))⟩
  f23 := ⟨Tryz.f132.name, by decide, Tryz.func132.trans (congrArg some (by kernel_rfl))⟩
  f24 := ⟨Tryz.f133.name, by decide, Tryz.func133.trans (congrArg some (by kernel_rfl))⟩
  f25 := ⟨Tryz.f134.name, by decide, Tryz.func134.trans (congrArg some (by kernel_rfl))⟩
  f26 := ⟨Tryz.f135.name, by decide, Tryz.func135.trans (congrArg some (by kernel_rfl))⟩
  f27 := ⟨Tryz.f136.name, by decide, Tryz.func136.trans (congrArg some (by kernel_rfl))⟩
  f28 := Tryz.func137.trans (congrArg some (by kernel_rfl))
  f29 := Tryz.func138.trans (congrArg some (by kernel_rfl))
  f46 := ⟨Tryz.f166.name, by decide, Tryz.func166.trans (congrArg some (by kernel_rfl))⟩
  f47 := Tryz.func167.trans (congrArg some (by kernel_rfl))
  f48 := Tryz.func168.trans (congrArg some (by kernel_rfl))
  f49 := ⟨Tryz.f169.name, by decide, Tryz.func169.trans (congrArg some (by kernel_rfl))⟩
  f50 := ⟨Tryz.f170.name, by decide, Tryz.func170.trans (congrArg some (by kernel_rfl))⟩
  f57 := ⟨Tryz.f182.name, by decide, Tryz.func182.trans (congrArg some (by kernel_rfl))⟩
  t0 := Tryz.underlying0
  a0 := Tryz.isAgg0
  z0 := Tryz.sizeOf0
  v0 := Tryz.zeroValue0
  t3 := Tryz.underlying3
  a3 := Tryz.isAgg3
  z3 := Tryz.sizeOf3
  v3 := Tryz.zeroValue3
  t4 := Tryz.underlying4
  a4 := Tryz.isAgg4
  z4 := Tryz.sizeOf4
  v4 := Tryz.zeroValue4
  t5 := Tryz.underlying5
  a5 := Tryz.isAgg5
  z5 := Tryz.sizeOf5
  v5 := Tryz.zeroValue5
  t9 := Tryz.underlying9
  a9 := Tryz.isAgg9
  z9 := Tryz.sizeOf9
  v9 := Tryz.zeroValue9
  t22 := Tryz.underlying38
  a22 := Tryz.isAgg38
  z22 := Tryz.sizeOf38
  v22 := Tryz.zeroValue38
  t25 := Tryz.underlying125
  a25 := Tryz.isAgg125
  z25 := Tryz.sizeOf125
  v25 := Tryz.zeroValue125
  t39 := Tryz.underlying144
  a39 := Tryz.isAgg144
  z39 := Tryz.sizeOf144
  v39 := Tryz.zeroValue144
  t45 := Tryz.underlying158
  a45 := Tryz.isAgg158
  z45 := Tryz.sizeOf158
  v45 := Tryz.zeroValue158
  t46 := Tryz.underlying159
  a46 := Tryz.isAgg159
  z46 := Tryz.sizeOf159
  v46 := Tryz.zeroValue159
  t50 := Tryz.underlying139
  a50 := Tryz.isAgg139
  z50 := Tryz.sizeOf139
  v50 := Tryz.zeroValue139
  t53 := Tryz.underlying165
  a53 := Tryz.isAgg165
  z53 := Tryz.sizeOf165
  v53 := Tryz.zeroValue165
  t55 := Tryz.underlying33
  a55 := Tryz.isAgg33
  z55 := Tryz.sizeOf33
  v55 := Tryz.zeroValue33
  t66 := Tryz.underlying190
  a66 := Tryz.isAgg190
  z66 := Tryz.sizeOf190
  v66 := Tryz.zeroValue190
  t70 := Tryz.underlying193
  a70 := Tryz.isAgg193
  z70 := Tryz.sizeOf193
  v70 := Tryz.zeroValue193
  t76 := Tryz.underlying206
  a76 := Tryz.isAgg206
  z76 := Tryz.sizeOf206
  v76 := Tryz.zeroValue206
  t77 := Tryz.underlying86
  a77 := Tryz.isAgg86
  z77 := Tryz.sizeOf86
  v77 := Tryz.zeroValue86 }
def Tryz.compactZ_ren : Go.Shelf.Ren := ⟨fun | 194 => 116 | n => n, fun | 31 => 32 | 9 => 9 | 3 => 3 | 4 => 4 | 0 => 0 | n => n, fun | n => n⟩
theorem Tryz.compactZ : Go.Proofs.Lays.n194 Tryz.prog Tryz.compactZ_ren := {
  mixed := by kernel_rfl
  f194 := Tryz.func116.trans (congrArg some (by kernel_rfl))
  t0 := Tryz.underlying0
  a0 := Tryz.isAgg0
  z0 := Tryz.sizeOf0
  v0 := Tryz.zeroValue0
  t3 := Tryz.underlying3
  a3 := Tryz.isAgg3
  z3 := Tryz.sizeOf3
  v3 := Tryz.zeroValue3
  t4 := Tryz.underlying4
  a4 := Tryz.isAgg4
  z4 := Tryz.sizeOf4
  v4 := Tryz.zeroValue4
  t9 := Tryz.underlying9
  a9 := Tryz.isAgg9
  z9 := Tryz.sizeOf9
  v9 := Tryz.zeroValue9
  t31 := Tryz.underlying32
  a31 := Tryz.isAgg32
  z31 := Tryz.sizeOf32
  v31 := Tryz.zeroValue32 }
def Tryz.compareZ_ren : Go.Shelf.Ren := ⟨fun | 106 => 87 | 213 => 113 | 265 => 139 | n => n, fun | 9 => 9 | 3 => 3 | n => n, fun | n => n⟩
theorem Tryz.compareZ : Go.Proofs.Lays.n106 Tryz.prog Tryz.compareZ_ren := {
  mixed := by kernel_rfl
  f106 := Tryz.func87.trans (congrArg some (by kernel_rfl))
  f213 := Tryz.func113.trans (congrArg some (by kernel_rfl))
  f265 := Tryz.func139.trans (congrArg some (by kernel_rfl))
  t3 := Tryz.underlying3
  a3 := Tryz.isAgg3
  z3 := Tryz.sizeOf3
  v3 := Tryz.zeroValue3
  t9 := Tryz.underlying9
  a9 := Tryz.isAgg9
  z9 := Tryz.sizeOf9
  v9 := Tryz.zeroValue9 }
end Go.Proofs

/- roster: groups in their order. -/
set_option maxRecDepth 100000
namespace Go.Proofs.YtppdopcghnfapaaGreatDoor
open Go.RowKit Go.Joins Go.Shelf Go.Sort Go.Lib

/-- A block of texts. -/
def Ty (w : World) (i : Nat) : Prop := ∃ cur, w.heap[i]? = some (.cells cur 9 (0, 0))
theorem Ty.keep {S : Nat → Prop} {w w' : World} {i : Nat} (h : Ty w i) (hk : Keep S w w') (hs : ¬ S i) : Ty w' i := by
  obtain ⟨cur, h⟩ := h; exact ⟨cur, box_keep h hk hs⟩
theorem Ty.below {w w' : World} {i : Nat} (h : Ty w i) (hb : Below w.heap.size w w') : Ty w' i := h.keep (S := fun _ => False) (Keep.ofBelow hb) (fun e => e)
theorem Ty.lt {w : World} {i : Nat} (h : Ty w i) : i < w.heap.size := by
  obtain ⟨cur, h⟩ := h; exact (Array.getElem?_eq_some_iff.1 h).1
/-- Where groups lie: not ahead of B, in a block of texts. -/
def GB (w : World) (B : Nat) (g : Gr) : Prop := ∀ b, g.1 = some b → B ≤ b ∧ Ty w b
theorem GB.keep {S : Nat → Prop} {w w' : World} {B : Nat} {g : Gr} (h : GB w B g) (hk : Keep S w w') (hs : ∀ b, g.1 = some b → ¬ S b) : GB w' B g := fun b e => ⟨(h b e).1, (h b e).2.keep hk (hs b e)⟩
theorem GB.below {w w' : World} {B : Nat} {g : Gr} (h : GB w B g) (hb : Below w.heap.size w w') : GB w' B g := fun b e => ⟨(h b e).1, (h b e).2.below hb⟩
theorem GB.mono {w : World} {B C : Nat} {g : Gr} (h : GB w B g) (hc : C ≤ B) : GB w C g := fun b e => ⟨Nat.le_trans hc (h b e).1, (h b e).2⟩
theorem GRd.keep {S : Nat → Prop} {w w' : World} {a : Option Addr} {n c : Nat} {ss : List ByteArray} (h : GRd w a n c ss) (hk : Keep S w w') (hs : ∀ ad, a = some ad → ¬ S ad.block) : GRd w' a n c ss := by
  refine ⟨h.len, h.cap, h.most, fun h0 => ?_⟩
  obtain ⟨b, off, e, hc⟩ := h.flat h0
  exact ⟨b, off, e, fun j hj => hk.cell (hc j hj) (hs ⟨b, off, none⟩ e)⟩
theorem GRd.take {w : World} {a : Option Addr} {n c : Nat} {ss : List ByteArray} (h : GRd w a n c ss) (k : Nat) (hk : k ≤ n) : GRd w a k c (ss.take k) := by
  have h0 := h.len
  refine ⟨by simp; omega, Nat.le_trans hk h.cap, h.most, fun h1 => ?_⟩
  obtain ⟨b, off, e, hc⟩ := h.flat (by omega)
  refine ⟨b, off, e, fun j hj => ?_⟩
  rw [hc j (by omega), List.getD_eq_getElem?_getD, List.getD_eq_getElem?_getD, List.getElem?_take_of_lt hj]

def bl (ss : List ByteArray) : List (List UInt8) := ss.map fun s => s.data.toList
def lb (zs : List (List UInt8)) : List ByteArray := zs.map fun z => ⟨z.toArray⟩
theorem bl_lb (zs : List (List UInt8)) : bl (lb zs) = zs := by
  unfold bl lb; rw [List.map_map]; conv => rhs; rw [← List.map_id zs]
  exact List.map_congr_left (fun z _ => rfl)
theorem tx_bl (ss : List ByteArray) : tx ss = (bl ss).map encStr := by
  unfold tx bl; rw [List.map_map]; exact List.map_congr_left (fun s _ => by simp)
def sortT (ss : List ByteArray) : List ByteArray := lb ((bl ss).mergeSort fun x y => decide (x ≤ y))
def compT (ss : List ByteArray) : List ByteArray := lb (Lib.compact (bl ss))
/-- Groups as they are kept. -/
def inOrdK (ss : List ByteArray) : List ByteArray := compT (sortT ss)
theorem tx_len (ss : List ByteArray) : (tx ss).length = ss.length := by simp [tx]
theorem own_grd {W : World} {B n : Nat} {v : Value} {ss : List ByteArray} (h : W.ownsRow B 9 1 v n (tx ss)) : ∃ g : Gr, v = gsv g ∧ g.2.1 = n ∧ GRd W (gad g) n g.2.2 ss ∧ GB W B g := by
  have hl : ss.length = n := by have := h.1; rw [tx_len] at this; omega
  rcases h.2 with ⟨rfl, rfl⟩ | ⟨g, cap, cur, rfl, hB, hb, h1, h2, h3, h4⟩
  · exact ⟨(none, 0, 0), rfl, rfl, ⟨hl, Nat.le_refl _, by decide, fun h => absurd h (Nat.lt_irrefl 0)⟩, fun b e => by cases e⟩
  · refine ⟨(some g, n, cap), rfl, rfl, ⟨hl, h1, h2, fun h0 => ⟨g, 0, rfl, fun j hj => ?_⟩⟩, fun b e => by cases e; exact ⟨hB, cur, hb⟩⟩
    rw [Nat.zero_add, cell_of_block hb]
    have e1 : (cur.toList.take (n * 1))[j]? = (tx ss)[j]? := by rw [h4]
    rw [List.getElem?_take_of_lt (by omega), Array.getElem?_toList] at e1
    rw [e1]
    have hj' : j < ss.length := by omega
    simp [tx, hj']
theorem sortT_any {W : World} {B n : Nat} {v : Value} {ss : List ByteArray} (h : W.ownsRow B 9 1 v n (tx ss)) (hn : n ≤ 1000000) :
    Calls Tryz.prog 107 #[v] W fun e w' => e = .returned (.tuple #[]) ∧ w'.ownsRow B 9 1 v n (tx (sortT ss)) ∧ Keep (fun k => v.ownBlock = some k) W w' := by
  have hl : (bl ss).length = n := by have := h.1; rw [tx_len] at this; simp [bl]; omega
  rcases h.2 with ⟨rfl, rfl⟩ | ⟨g, cap, cur, rfl, hB, hb, h1, h2, h3, h4⟩
  · refine (AnyM.slices_Sort_string_none Tryz.sortZ none 0 W).mono ?_
    rintro e w' ⟨rfl, rfl⟩
    have : ss = [] := by cases ss with | nil => rfl | cons => simp [bl] at hl
    subst this
    exact ⟨rfl, ⟨by simp [tx, sortT, bl, lb], Or.inl ⟨rfl, rfl⟩⟩, Keep.refl _ _⟩
  · subst hl
    have hH : Holds encStr W g 0 (bl ss).toArray := holds_of_block hb (by rw [tx_bl] at h4; simpa using h4)
    refine (AnyM.slices_Sort_string Tryz.sortZ g 0 cap (bl ss) W hH (Array.getElem?_eq_some_iff.1 hb).1 (by omega)).mono ?_
    rintro e w' ⟨rfl, nn, os, rfl⟩
    refine ⟨rfl, ?_, Keep.ofGrown (grownBy_sorted _)⟩
    have := ownsRow_sorted (n := nn) (os := os) (ss := bl ss) (ts := (bl ss).mergeSort fun x y => decide (x ≤ y)) (by simp) hB hb h1 h2 h3
    rw [tx_bl, sortT, bl_lb]
    exact this
theorem compact_le (zs : List (List UInt8)) : (Lib.compact zs).length ≤ zs.length := by
  unfold Lib.compact Lib.compactUpTo
  rw [List.length_map]
  exact Nat.le_trans (List.length_filter_le _ _) (by simp)
theorem compactT_any {W : World} {B n : Nat} {v : Value} {ss : List ByteArray} (h : W.ownsRow B 9 1 v n (tx ss)) (hn : n ≤ 1000000) :
    Calls Tryz.prog 116 #[v] W fun e w' => ∃ g : Gr, e = .returned (gsv g) ∧ GRd w' (gad g) g.2.1 g.2.2 (compT ss) ∧ GB w' B g ∧ g.2.1 ≤ n ∧ Keep (fun k => v.ownBlock = some k) W w' := by
  have hl : (bl ss).length = n := by have := h.1; rw [tx_len] at this; simp [bl]; omega
  rcases h.2 with ⟨rfl, rfl⟩ | ⟨g, cap, cur, rfl, hB, hb, h1, h2, h3, h4⟩
  · refine (Any.slices_Compact_string_empty Tryz.compactZ none 0 W).mono ?_
    rintro e w' ⟨rfl, rfl⟩
    have : ss = [] := by cases ss with | nil => rfl | cons => simp [bl] at hl
    subst this
    exact ⟨(none, 0, 0), rfl, ⟨rfl, Nat.le_refl _, by decide, fun h => absurd h (Nat.lt_irrefl 0)⟩, (fun b e => by cases e), Nat.le_refl _, Keep.refl _ _⟩
  · subst hl
    have hH : Holds encStr W g 0 (bl ss).toArray := holds_of_block hb (by rw [tx_bl] at h4; simpa using h4)
    refine (Any.slices_Compact_string Tryz.compactZ g 0 cap (bl ss) W hH (by omega) h1).mono ?_
    have hle := compact_le (bl ss)
    rintro e w' ⟨rfl, q, hw⟩
    obtain ⟨D, hD⟩ : ∃ D, D = Lib.compact (bl ss) ++ List.replicate ((bl ss).length - (Lib.compact (bl ss)).length) [] := ⟨_, rfl⟩
    rw [← hD] at hw
    have hDl : D.length = (bl ss).length := by rw [hD]; simp; omega
    have hg : w' = grow (putRow encStr (Sort.ahead W q) g 0 D.toArray) #[] := by rw [hw, grow_empty]
    subst hg
    have ho := ownsRow_sorted (n := q) (os := #[]) (ss := bl ss) (ts := D) hDl hB hb h1 h2 h3
    rw [show D.map encStr = tx (lb D) by rw [tx_bl, bl_lb]] at ho
    obtain ⟨g', e', en, hr, hgb⟩ := own_grd ho
    obtain ⟨gb, gn, gc⟩ := g'
    have eg : gb = some g ∧ gn = (bl ss).length ∧ gc = cap := by
      unfold gsv gad at e'
      cases gb with
      | none => cases e'
      | some b => cases e'; exact ⟨rfl, rfl, rfl⟩
    obtain ⟨rfl, rfl, rfl⟩ := eg
    refine ⟨(some g, (Lib.compact (bl ss)).length, gc), rfl, ?_, fun b e => hgb b e, hle, Keep.ofGrown (grownBy_sorted _)⟩
    have ht := hr.take _ hle
    rw [show (lb D).take (Lib.compact (bl ss)).length = compT ss by
      unfold compT lb
      rw [← List.map_take, hD, List.take_append_of_le_length (Nat.le_refl _), List.take_length]] at ht
    exact ht
set_option maxHeartbeats 1000000 in
theorem inOrder_any (a : Option Addr) (n c : Nat) (ss : List ByteArray) (w : World) (hR : GRd w a n c ss) (hn : n ≤ 100000) (hs : ∀ s ∈ ss, s.size ≤ 281474976710656) :
    Calls Tryz.prog 94 #[.slice a n c] w fun e w' => ∃ g : Gr, e = .returned (gsv g) ∧ GRd w' (gad g) g.2.1 g.2.2 (inOrdK ss) ∧ GB w' w.heap.size g ∧ g.2.1 ≤ n ∧ Below w.heap.size w w' := by
  have cT := texts_any a n c ss w hR hn hs
  clear hR hs
  go_enter Tryz.func94, Tryz.ntmps94
  go_wp2_with (first
    | (go_at_call 110; refine cT.mono ?_; clear cT; rintro e w1 ⟨v, rfl, ho, hb⟩; obtain ⟨av, cv, hv⟩ := ownT_sl ho; subst hv)
    | (go_at_call 107; refine (sortT_any ho (by omega)).mono ?_; rintro e w2 ⟨rfl, ho2, hk2⟩)
    | (go_at_call 116; refine (compactT_any ho2 (by omega)).mono ?_; rintro e w3 ⟨g, rfl, hg, hgb, hgn, hk3⟩))
  have b2 : Below w.heap.size w w2 := hb.trans (hk2.below hb.size (fun k hk => (ho.lt k hk).1))
  have b3 : Below w.heap.size w w3 := b2.trans (hk3.below b2.size (fun k hk => (ho2.lt k hk).1))
  go_ret
  exact ⟨g, rfl, hg, hgb, hgn, b3⟩
end Go.Proofs.YtppdopcghnfapaaGreatDoor

/- roster: entries by contact: their comparison, slices.SortFunc. -/
set_option maxRecDepth 100000
namespace Go.Proofs.YtppdopcghnfapaaGreatDoor
open Go.RowKit Go.Joins Go.Shelf Go.Sort Go.Lib

theorem comp_lt : ∀ (a b : List UInt8), decide (compareBytes a b < 0) = decide (a < b)
  | [], [] => by simp [compareBytes]
  | [], _ :: _ => by simp [compareBytes]
  | _ :: _, [] => by simp [compareBytes]
  | a :: xs, b :: bs => by
    unfold compareBytes
    by_cases h1 : a < b
    · simp [h1, List.cons_lt_cons_iff]
    · by_cases h2 : b < a
      · have hne : a ≠ b := fun e => by subst e; exact absurd h2 h1
        simp [h1, h2, List.cons_lt_cons_iff, hne]
      · have he : a = b := UInt8.le_antisymm (UInt8.not_lt.1 h2) (UInt8.not_lt.1 h1)
        subst he
        rw [if_neg h1, if_neg h1, comp_lt xs bs]
        simp
def cfE (x y : En) : Int := compareBytes x.c.data.toList y.c.data.toList
def ltE (x y : En) : Bool := decide (x.c.data.toList < y.c.data.toList)
theorem cmpE_any (x y : En) (W : World) : Calls Tryz.prog 86 #[.agg (enc x), .agg (enc y)] W fun e w' => e = .returned (.int .i64 (cfE x y)) ∧ ∃ q os', w' = grow (W.drewN q) os' := by
  have hcon : ∀ W', Calls Tryz.prog 87 #[.string x.c, .string y.c] W' fun e w' => e = .returned (.int .i64 (compareBytes x.c.data.toList y.c.data.toList)) ∧ w' = W' := fun W' => Any.strings_Compare Tryz.compareZ x.c y.c W'
  unfold cfE
  generalize compareBytes x.c.data.toList y.c.data.toList = r at hcon ⊢
  obtain ⟨c, k, nm, ⟨g, n, q⟩, o, hn, i, m⟩ := x
  obtain ⟨c', k', nm', ⟨g', n', q'⟩, o', hn', i', m'⟩ := y
  unfold enc gsv
  dsimp only at hcon
  go_enter Tryz.func86, Tryz.ntmps86
  go_wp2_with (go_at_call 87; refine (hcon _).mono ?_; rintro e w' ⟨rfl, hw1⟩; replace hw1 := hw1.symm; subst hw1)
  go_ret
  exact ⟨rfl, 0, _, by rw [alloc_eq_grow, alloc_eq_grow, grow_grow]; rfl⟩

/-! ### rows of entries -/
def ecs (es : List En) : List Value := es.flatMap fun x => (enc x).toList
theorem ecs_app (es fs : List En) : ecs (es ++ fs) = ecs es ++ ecs fs := by simp [ecs]
theorem flat_at {α : Type} [Inhabited α] (f : α → List Value) (k : Nat) (hk : ∀ x, (f x).length = k) (h0 : 0 < k) : ∀ (l : List α) (t : Nat), t < l.length * k → (l.flatMap f)[t]? = some ((f (l[t / k]!))[t % k]!)
  | [], t, h => by simp at h
  | x :: r, t, h => by
    rw [List.flatMap_cons]
    by_cases ht : t < k
    · rw [List.getElem?_append_left (by rw [hk]; exact ht), Nat.div_eq_of_lt ht, Nat.mod_eq_of_lt ht]
      have : t < (f x).length := by rw [hk]; exact ht
      simp [this]
    · have hle : k ≤ t := Nat.le_of_not_lt ht
      rw [List.getElem?_append_right (by rw [hk]; exact hle), hk, flat_at f k hk h0 r (t - k) (by
        rw [List.length_cons, Nat.add_mul, Nat.one_mul] at h; omega)]
      have e1 : t / k = (t - k) / k + 1 := by rw [Nat.div_eq_sub_div h0 hle]
      have e2 : t % k = (t - k) % k := Nat.mod_eq_sub_mod hle
      rw [e1, e2]
      simp
theorem flatK_list {α : Type} [Inhabited α] (f : α → List Value) (k : Nat) (hk : ∀ x, (f x).length = k) (h0 : 0 < k) (d : Array α) : (flatK f k d).toList = d.toList.flatMap f := by
  have hl : (d.toList.flatMap f).length = d.size * k := by
    rw [List.length_flatMap]
    have : (d.toList.map fun x => (f x).length) = List.replicate d.toList.length k := by
      rw [List.eq_replicate_iff]
      exact ⟨by simp, fun y hy => by obtain ⟨x, _, rfl⟩ := List.mem_map.1 hy; exact hk x⟩
    rw [this]
    simp
  apply List.ext_getElem?
  intro t
  by_cases ht : t < d.size * k
  · rw [flat_at f k hk h0 d.toList t (by simpa using ht), Array.getElem?_toList]
    have hs : t < (flatK f k d).size := by rw [size_flatK]; exact ht
    have := get_flatK f k d t ht
    rw [getElem!_pos _ t hs] at this
    rw [Array.getElem?_eq_getElem hs, this]
    have e : d.toList[t / k]! = d[t / k]! := by obtain ⟨l⟩ := d; simp
    rw [e]
  · rw [List.getElem?_eq_none (by simp; omega), List.getElem?_eq_none (by omega)]
theorem enc_len (x : En) : (enc x).toList.length = 8 := rfl
theorem ecs_len (es : List En) : (ecs es).length = es.length * 8 := by
  induction es with
  | nil => rfl
  | cons x r ih => unfold ecs at ih ⊢; rw [List.flatMap_cons, List.length_append, ih, enc_len, List.length_cons]; omega
/-- Entries, rising by contact. -/
def sortE (es : List En) : List En := es.mergeSort fun x y => !ltE y x
theorem sortE_perm (es : List En) : (sortE es).Perm es := List.mergeSort_perm _ _
theorem blockK {w : World} {g n : Nat} {os : Array Obj} {cur : Array Value} {e : TypeId} {fr : Nat × Nat} (F : Array Value) (hb : w.heap[g]? = some (.cells cur e fr)) :
    (grow (putRow id (Sort.ahead w n) g 0 F) os).heap[g]? = some (.cells (putCells id 0 F cur) e fr) := by
  have hg : g < w.heap.size := (Array.getElem?_eq_some_iff.1 hb).1
  rw [heap_grow_old _ _ (by simpa using hg)]
  simp [putRow, mapBlock, Sort.ahead, Array.getElem?_modify, hb, onCells]
theorem grownK {w : World} {g n : Nat} {os : Array Obj} (F : Array Value) : w.grownBy (grow (putRow id (Sort.ahead w n) g 0 F) os) (some g) := by
  refine ⟨rfl, rfl, rfl, by simp, fun k hk hne => ?_⟩
  rw [heap_grow_old _ _ (by simpa using hk)]
  have : g ≠ k := fun e => hne (by rw [e])
  simp [putRow, mapBlock, Sort.ahead, Array.getElem?_modify, this]
theorem takeK (cur F : Array Value) (h : F.size ≤ cur.size) : (putCells id 0 F cur).toList.take F.size = F.toList := by
  apply List.ext_getElem?
  intro j
  by_cases hj : j < F.size
  · rw [List.getElem?_take_of_lt hj, Array.getElem?_toList]
    simp [putCells, hj, show j < cur.size by omega]
  · rw [List.getElem?_take_eq_none (by omega), List.getElem?_eq_none (by simp; omega)]
theorem aggE (w : World) : (isAgg 51).run Tryz.prog w = .ok true w := by kernel_rfl
theorem sizeE (w : World) : (Go.sizeOf 51).run Tryz.prog w = .ok 8 w := by kernel_rfl
theorem ltOf_cf {es : List En} (x y : {x : En // x ∈ es}) : ltOf (fun x y : {x : En // x ∈ es} => cfE x.1 y.1) x y = ltStr x.1.c.data.toList y.1.c.data.toList := by
  unfold ltOf cfE ltStr
  exact comp_lt _ _
theorem cmp_swo (es : List En) : SWO (ltOf (fun x y : {x : En // x ∈ es} => cfE x.1 y.1)) where
  irrefl x := by rw [ltOf_cf]; exact swo_ltStr.irrefl _
  trans x y z h1 h2 := by rw [ltOf_cf] at *; exact swo_ltStr.trans _ _ _ h1 h2
  ntrans x y z h1 h2 := by rw [ltOf_cf] at *; exact swo_ltStr.ntrans _ _ _ h1 h2
theorem ltStr_tot {x y : List UInt8} (h1 : ltStr x y = false) (h2 : ltStr y x = false) : x = y := by
  simp only [ltStr, decide_eq_false_iff_not, List.not_lt] at h1 h2
  exact List.le_antisymm h2 h1
theorem nodup_inj {es : List En} (hnd : (es.map (·.c)).Nodup) : ∀ x ∈ es, ∀ y ∈ es, x.c = y.c → x = y := by
  induction es with
  | nil => intro x hx; cases hx
  | cons a r ih =>
    rw [List.map_cons, List.nodup_cons] at hnd
    intro x hx y hy e
    rcases List.mem_cons.1 hx with h1 | h1
    · rcases List.mem_cons.1 hy with h2 | h2
      · rw [h1, h2]
      · exact absurd (show a.c ∈ r.map (·.c) from List.mem_map.2 ⟨y, h2, by rw [← e, h1]⟩) hnd.1
    · rcases List.mem_cons.1 hy with h2 | h2
      · exact absurd (show a.c ∈ r.map (·.c) from List.mem_map.2 ⟨x, h1, by rw [e, h2]⟩) hnd.1
      · exact ih hnd.2 x h1 y h2 e
theorem attach_sort (es : List En) : (es.attach.mergeSort fun x y => !ltOf (fun x y : {x : En // x ∈ es} => cfE x.1 y.1) y x).flatMap (fun x => (enc x.1).toList) = ecs (sortE es) := by
  have h1 : (es.attach.mergeSort fun x y => !ltOf (fun x y : {x : En // x ∈ es} => cfE x.1 y.1) y x).map Subtype.val = sortE es := by
    rw [List.map_mergeSort (s := fun x y => !ltE y x) (fun a _ b _ => by rw [ltOf_cf]; rfl), List.attach_map_subtype_val]
    rfl
  rw [← h1]
  unfold ecs
  rw [List.flatMap_map]
set_option maxHeartbeats 1000000 in
theorem sortE_any {W : World} {B n : Nat} {v : Value} {es : List En} (h : W.ownsRow B 51 8 v n (ecs es)) (hn : n ≤ 1000000) (hnd : (es.map (·.c)).Nodup) :
    Calls Tryz.prog 85 #[v, .func (.func 86) #[] #[]] W fun e w' => e = .returned (.tuple #[]) ∧ w'.ownsRow B 51 8 v n (ecs (sortE es)) ∧ Keep (fun k => v.ownBlock = some k) W w' := by
  have hl : es.length = n := by have := h.1; rw [ecs_len] at this; omega
  by_cases hz : n = 0
  · subst hz
    have he : es = [] := List.length_eq_zero_iff.1 hl
    subst he
    have hv : ∃ p c, v = .slice p 0 c := by
      rcases h.2 with ⟨rfl, _⟩ | ⟨g, cap, cur, rfl, _⟩
      · exact ⟨_, _, rfl⟩
      · exact ⟨_, _, rfl⟩
    obtain ⟨p, c, rfl⟩ := hv
    refine (AnyF.slices_SortFunc_none (L := { Tryz.sortFZ with }) p c (.func (.func 86) #[] #[]) W).mono ?_
    rintro e w' ⟨rfl, rfl⟩
    have e0 : sortE [] = [] := by unfold sortE; simp
    rw [e0]
    exact ⟨rfl, h, Keep.refl _ _⟩
  · rcases h.2 with ⟨_, h0⟩ | ⟨g, cap, cur, rfl, hB, hb, h1, h2, h3, h4⟩
    · exact absurd h0 hz
    · obtain ⟨x0, hx0⟩ : ∃ x, x ∈ es := by
        cases es with
        | nil => exact absurd hl.symm hz
        | cons x r => exact ⟨x, by simp⟩
      haveI : Inhabited {x : En // x ∈ es} := ⟨⟨x0, hx0⟩⟩
      have hk : ∀ x : {x : En // x ∈ es}, (enc x.1).toList.length = 8 := fun x => enc_len x.1
      have hF : (flatK (fun x : {x : En // x ∈ es} => (enc x.1).toList) 8 es.attach.toArray).toList = ecs es := by
        rw [flatK_list _ 8 hk (by decide)]
        unfold ecs
        conv => rhs; rw [← List.attach_map_subtype_val es]
        rw [List.flatMap_map]
      have hs : es.attach.toArray.size = n := by simp [hl]
      have hH : HoldsK (fun x : {x : En // x ∈ es} => (enc x.1).toList) 8 W g 0 es.attach.toArray := by
        intro j hj
        refine ⟨?_, by simp [World.frozen?, hb]⟩
        rw [Nat.zero_add, cell_of_block hb]
        have e1 : (cur.toList.take (n * 8))[j]? = (flatK (fun x : {x : En // x ∈ es} => (enc x.1).toList) 8 es.attach.toArray).toList[j]? := by rw [h4, hF]
        rw [size_flatK, hs] at hj
        rw [List.getElem?_take_of_lt hj, Array.getElem?_toList, Array.getElem?_toList] at e1
        rw [e1, getElem!_pos _ j (by rw [size_flatK, hs]; exact hj), Array.getElem?_eq_getElem]
        rfl
      have eg : ∀ args w, (callFunc 86 args).run Tryz.prog w = .ok (.enter 86 args) w := enters_of Tryz.func86 (by kernel_rfl) rfl
      have hcon := AnyQ.slices_SortFunc_total Tryz.sortFZ 8 aggE sizeE (fun x : {x : En // x ∈ es} => (enc x.1).toList) hk (fun x v hv => by
        have := enc_one x.1
        rw [Array.all_eq_true'] at this
        exact this v (by simpa using hv)) (fun x y => cfE x.1 y.1) (cmp_swo es) 86 #[] g 0 cap es.attach.toArray W eg (fun _ _ _ _ x y => by simpa using cmpE_any x.1 y.1 _) hH (Array.getElem?_eq_some_iff.1 hb).1 (by rw [hs]; omega) (fun x y hx hy => by
          rw [ltOf_cf] at hx hy
          exact Subtype.ext (nodup_inj hnd x.1 x.2 y.1 y.2 (ba_ext (ltStr_tot hx hy))))
      rw [hs] at hcon
      refine hcon.mono ?_
      rintro e w' ⟨rfl, q, os, rfl⟩
      unfold sortWorldK putRowK
      have hF2 : (flatK (fun x : {x : En // x ∈ es} => (enc x.1).toList) 8 (es.attach.toArray.toList.mergeSort fun x y => !ltOf (fun x y : {x : En // x ∈ es} => cfE x.1 y.1) y x).toArray).toList = ecs (sortE es) := by
        rw [flatK_list _ 8 hk (by decide), List.toList_toArray, List.toList_toArray]
        exact attach_sort es
      generalize flatK (fun x : {x : En // x ∈ es} => (enc x.1).toList) 8 (es.attach.toArray.toList.mergeSort fun x y => !ltOf (fun x y : {x : En // x ∈ es} => cfE x.1 y.1) y x).toArray = F at hF2 ⊢
      have hFl : F.size = n * 8 := by
        have : F.toList.length = (ecs (sortE es)).length := by rw [hF2]
        rw [ecs_len, (sortE_perm es).length_eq, hl] at this
        simpa using this
      refine ⟨rfl, ⟨by rw [ecs_len, (sortE_perm es).length_eq, hl], Or.inr ⟨g, cap, _, rfl, hB, blockK F hb, h1, h2, by simp [putCells, h3], ?_⟩⟩, Keep.ofGrown (grownK F)⟩
      rw [← hF2, ← hFl]
      exact takeK cur F (by rw [hFl, h3]; exact Nat.mul_le_mul_right 8 h1)
end Go.Proofs.YtppdopcghnfapaaGreatDoor

/- roster: ranging over the entries (what was met so far). -/
set_option maxRecDepth 100000
namespace Go.Proofs.YtppdopcghnfapaaGreatDoor
open Go.RowKit Go.Joins Go.Sort

theorem Re_some {v : Value} {yd : DataW Unit} {yp : List MemPlace} (h : Re v = some (yd, yp)) : ∃ x, v = env x ∧ yd = ed x := by
  have h0 := h
  unfold Re at h
  split at h
  · split at h
    · rename_i a c k nm n q ho hn hi hm e
      injection h with h
      have e1 : ed ⟨c, k, nm, (none, n, q), ⟨ho, hn, hi, hm⟩⟩ = yd := congrArg Prod.fst h
      subst e1
      exact ⟨_, Re_inv h0, rfl⟩
    · rename_i a c k nm b n q ho hn hi hm e
      injection h with h
      have e1 : ed ⟨c, k, nm, (some b, n, q), ⟨ho, hn, hi, hm⟩⟩ = yd := congrArg Prod.fst h
      subst e1
      exact ⟨_, Re_inv h0, rfl⟩
    · cases h
  · cases h
theorem ed_at {D : DataW Unit} {m : ByteArray → Option En} {s : ByteArray} {x : En} (h : ∀ z, D.atKey (kl s) z = ((m s).map ed).getD z) (hat : ∀ z, D.atKey (kl s) z = ed x) : m s = some x := by
  have h1 := h .nil
  rw [hat] at h1
  cases hm : m s with
  | none => rw [hm] at h1; cases h1
  | some y =>
    rw [hm] at h1
    rw [ed_inj (x := x) (y := y) h1]
/-- The keys that were met so far and of which it is so. -/
def CollP (p : List UInt8 → Bool) (D0 : DataW Unit) (left : Lit → Bool) (ss : List (List UInt8)) : Prop := ss.Nodup ∧ ∀ x, x ∈ ss ↔ (Maps.has D0 (.string x) = true ∧ left (.string x) = false ∧ p x = true)
theorem CollP.start (p : List UInt8 → Bool) (D0 : DataW Unit) : CollP p D0 (Maps.has D0) [] := ⟨List.nodup_nil, fun x => by cases Maps.has D0 (.string x) <;> simp⟩
theorem CollP.yes {p : List UInt8 → Bool} {D0 : DataW Unit} {left : Lit → Bool} {ss : List (List UInt8)} (h : CollP p D0 left ss) {x : List UInt8} (hp : p x = true) (hlk : left (.string x) = true) (hhas : Maps.has D0 (.string x) = true) : CollP p D0 (fun z => left z && !z.sameKey (.string x)) (ss ++ [x]) := by
  have hnew : x ∉ ss := fun hx => by have := ((h.2 x).1 hx).2.1; rw [hlk] at this; cases this
  refine ⟨List.nodup_append.2 ⟨h.1, by simp, fun a ha b hb => by simp at hb; subst hb; exact fun e => hnew (e ▸ ha)⟩, fun y => ?_⟩
  by_cases hy : y = x
  · subst hy; simp [hhas, hp, Lit.sameKey]
  · simp [h.2 y, hy, Lit.sameKey]
theorem CollP.no {p : List UInt8 → Bool} {D0 : DataW Unit} {left : Lit → Bool} {ss : List (List UInt8)} (h : CollP p D0 left ss) {x : List UInt8} (hp : p x = false) : CollP p D0 (fun z => left z && !z.sameKey (.string x)) ss := by
  refine ⟨h.1, fun y => ?_⟩
  by_cases hy : y = x
  · subst hy
    rw [h.2 y]
    simp [hp]
  · simp [h.2 y, hy, Lit.sameKey]
theorem CollP.perm {p : List UInt8 → Bool} {D0 : DataW Unit} {left : Lit → Bool} {ss ks : List (List UInt8)} (h : CollP p D0 left ss) (hl : ∀ z, left z = false) (hn : ks.Nodup) (hk : ∀ x, x ∈ ks ↔ (Maps.has D0 (.string x) = true ∧ p x = true)) : ss.Perm ks :=
  (List.perm_ext_iff_of_nodup h.1 hn).2 (fun x => by rw [h.2 x, hk, hl]; simp)
end Go.Proofs.YtppdopcghnfapaaGreatDoor

/- roster: copied, with groups; the entries of which it is so. -/
set_option maxRecDepth 100000
namespace Go.Proofs.YtppdopcghnfapaaGreatDoor
open Go.RowKit Go.Joins Go.Shelf Go.Sort Go.Lib

theorem CP.setG {w : World} {B : Nat} {x x' : En} {W : World} (h : CP w B x W) (i : Nat) (v : Value) (e : (enc x).setIfInBounds i v = enc x') : CP w B x' (W.setCell ⟨B, i, none⟩ v) := by
  have a := block_setCell (i := i) h.1.1 v
  rw [e] at a
  have := h.2.2
  have := h.1.1.lt
  exact ⟨⟨a, h.1.2.keep (setK W B i v) (by omega)⟩, h.2.1.trans ((setK W B i v).below (by omega) (fun j hj => by omega)), h.2.2⟩
set_option maxHeartbeats 1600000 in
theorem copiedG_any (x : En) (hc : x.c.size ≤ 1000000) (hn : x.nm.size ≤ 1000000) (gs : List ByteArray) (w : World) (hG : GRd w (gad x.g) x.g.2.1 x.g.2.2 gs) (hgn : x.g.2.1 ≤ 100000) (hgs : ∀ s ∈ gs, s.size ≤ 281474976710656) :
    Calls Tryz.prog 81 #[env x] w fun e w' => ∃ g : Gr, e = .returned (env { x with g := g }) ∧ GRd w' (gad g) g.2.1 g.2.2 gs ∧ GB w' w.heap.size g ∧ Below w.heap.size w w' := by
  obtain ⟨c, k, nm, ⟨g, n, q⟩, ho, hn', hi, hm⟩ := x
  dsimp only at hc hn hgn
  obtain ⟨A, HA⟩ : ∃ A, Hid (gad (g, n, q) = A) := ⟨_, rfl⟩
  replace hG : GRd w (gad (g, n, q)) n q gs := hG
  rw [HA.out] at hG
  have c1 := fun w => clone_any c w (by omega)
  have c2 := fun w => clone_any nm w (by omega)
  have HG : Hid (∀ w', Below w.heap.size w w' → Calls Tryz.prog 110 #[.slice A n q] w' fun e w'' => ∃ v, e = .returned v ∧ w''.ownsRow w'.heap.size 9 1 v n (tx gs) ∧ Below w'.heap.size w' w'') := fun w' hb => texts_any A n q gs w' (hG.below hb) hgn hgs
  clear hG hgn hgs
  obtain ⟨X, HX⟩ : ∃ X : En, Hid ((⟨c, k, nm, (g, n, q), ⟨ho, hn', hi, hm⟩⟩ : En) = X) := ⟨_, rfl⟩
  have HE : Hid (enc X = #[.string c, .bool k, .string nm, .slice A n q, .int .i64 ho, .int .u64 hn', .int .i64 hi, .int .u64 hm]) := by
    show _ = _
    rw [← HX.out, ← HA.out]; rfl
  have h2 : EnAt ((w.alloc (.cells #[.string c, .bool k, .string nm, .slice A n q, .int .i64 ho, .int .u64 hn', .int .i64 hi, .int .u64 hm] 51)).alloc (.cells #[.string ⟨#[]⟩, .bool false, .string ⟨#[]⟩, .slice none 0 0, .int .i64 0, .int .u64 0, .int .i64 0, .int .u64 0] 51)) (w.heap.size + 1) (en0 ⟨#[]⟩) := push_at _ _ (by simp)
  have h1 : EnAt ((w.alloc (.cells #[.string c, .bool k, .string nm, .slice A n q, .int .i64 ho, .int .u64 hn', .int .i64 hi, .int .u64 hm] 51)).alloc (.cells #[.string ⟨#[]⟩, .bool false, .string ⟨#[]⟩, .slice none 0 0, .int .i64 0, .int .u64 0, .int .i64 0, .int .u64 0] 51)) w.heap.size X := by
    unfold EnAt
    rw [HE.out]
    exact push_old (push_at _ _ rfl)
  have hb := below2 w (.cells #[.string c, .bool k, .string nm, .slice A n q, .int .i64 ho, .int .u64 hn', .int .i64 hi, .int .u64 hm] 51) (.cells #[.string ⟨#[]⟩, .bool false, .string ⟨#[]⟩, .slice none 0 0, .int .i64 0, .int .u64 0, .int .i64 0, .int .u64 0] 51)
  have HO : Hid (CP w w.heap.size X ((w.alloc (.cells #[.string c, .bool k, .string nm, .slice A n q, .int .i64 ho, .int .u64 hn', .int .i64 hi, .int .u64 hm] 51)).alloc (.cells #[.string ⟨#[]⟩, .bool false, .string ⟨#[]⟩, .slice none 0 0, .int .i64 0, .int .u64 0, .int .i64 0, .int .u64 0] 51))) := ⟨⟨h1, h2⟩, hb, rfl⟩
  have HC : Hid (X.c = c ∧ X.nm = nm ∧ gsv X.g = .slice A n q) := by
    rw [← HX.out, ← HA.out]; exact ⟨rfl, rfl, rfl⟩
  have HP : Hid (∀ g' : Gr, (⟨c, k, nm, g', ⟨ho, hn', hi, hm⟩⟩ : En) = { X with g := g' }) := fun g' => by rw [← HX.out]
  show Calls Tryz.prog 81 #[.agg (enc ⟨c, k, nm, (g, n, q), ⟨ho, hn', hi, hm⟩⟩)] w _
  rw [HX.out, HE.out]
  clear h1 h2 hb hc hn
  clear HP HX HA
  go_enter Tryz.func81, Tryz.ntmps81
  go_upto_region 1 with fail
  generalize ((w.alloc _).alloc _) = W0 at HO ⊢
  obtain ⟨B, HB⟩ : ∃ B, Hid (w.heap.size = B) := ⟨_, rfl⟩
  rw [HB.out] at HO HG ⊢
  have q0 := HO.out.1.1.c0
  rw [HC.out.1] at q0
  go_upto_region 2 with (first
    | (go_at_call 93; refine (c1 _).mono ?_; clear c1; rintro e w1 ⟨rfl, hb1⟩; have P1 : Hid (CP w B X w1) := HO.out.below hb1; have r0 := P1.out.1.1.c0; have s0 := P1.out.1.1.fz 0))
  have P2 : Hid (CP w B X (w1.setCell ⟨B, 0, none⟩ (.string c))) := P1.out.set 0 _ (by rw [HE.out]; rfl)
  clear q0 hb1 r0 s0 HO P1
  generalize w1.setCell _ _ = W1 at P2 ⊢
  have q0 := P2.out.1.1.c2
  rw [HC.out.2.1] at q0
  go_upto_region 3 with (first
    | (go_at_call 93; refine (c2 _).mono ?_; clear c2; rintro e w2 ⟨rfl, hb1⟩; have P1 : Hid (CP w B X w2) := P2.out.below hb1; have r0 := P1.out.1.1.c2; have s0 := P1.out.1.1.fz 2))
  have P3 : Hid (CP w B X (w2.setCell ⟨B, 2, none⟩ (.string nm))) := P1.out.set 2 _ (by rw [HE.out]; rfl)
  clear q0 hb1 r0 s0 P2 P1
  generalize w2.setCell _ _ = W2 at P3 ⊢
  have q0 := P3.out.1.1.c3
  rw [HC.out.2.2] at q0
  have c3 := HG.out W2 (by have := P3.out.2.1; rw [HB.out] at this; exact this)
  go_upto_region 4 with (first
    | (go_at_call 110; refine c3.mono ?_; clear c3; rintro e w3 ⟨v, rfl, hov, hb3⟩; obtain ⟨⟨gb, gn, gc⟩, hv, en', hg', hgb'⟩ := own_grd hov; replace hv : v = .slice (gad (gb, gn, gc)) gn gc := hv; subst hv; replace en' : gn = n := en'; subst en'; have P1 : Hid (CP w B X w3) := P3.out.below hb3; have r0 := P1.out.1.1.c3; have s0 := P1.out.1.1.fz 3))
  have gB : B + 1 < W2.heap.size := P3.out.1.2.lt
  obtain ⟨Y, HY⟩ : ∃ Y : En, Hid (Y = { X with g := (gb, gn, gc) }) := ⟨_, rfl⟩
  have P4 : Hid (CP w B Y (w3.setCell ⟨B, 3, none⟩ (.slice (gad (gb, gn, gc)) gn gc))) := by
    refine P1.out.setG 3 _ ?_
    rw [HY.out]
    unfold enc
    rfl
  have HN : Hid (GRd (w3.setCell ⟨B, 3, none⟩ (.slice (gad (gb, gn, gc)) gn gc)) (gad (gb, gn, gc)) gn gc gs ∧ GB (w3.setCell ⟨B, 3, none⟩ (.slice (gad (gb, gn, gc)) gn gc)) W2.heap.size (gb, gn, gc)) := by
    have hk := setK w3 B 3 (.slice (gad (gb, gn, gc)) gn gc)
    refine ⟨hg'.keep hk (fun ad e => ?_), hgb'.keep hk (fun b e => ?_)⟩
    · cases gb with
      | none => cases e
      | some b => cases e; have := (hgb' b rfl).1; exact fun e => by have e : b = B := e; omega
    · have := (hgb' b e).1; exact fun e => by omega
  clear q0 r0 s0 P3 P1 hov hg' hgb'
  generalize w3.setCell _ _ = W3 at P4 HN ⊢
  have hs2 := gB
  go_wp2_with (first
    | (refine wp_load_en rfl (.tmp 1) rfl B rfl Y P4.out.1.1 ?_)
    | (refine wp_store_en rfl (.tmp 2) (.tmp 15) rfl (B + 1) rfl Y rfl _ P4.out.1.2 ?_))
  have e1 := P4.out.1.2.set Y
  have e2 := P4.out.1.2.setB P4.out.2.1 (by have := HB.out; omega) (enc Y)
  have hk := rowK W3 (B + 1) (enc Y)
  refine bodyPost_ret (v := env Y) ?_ rfl ⟨(gb, gn, gc), by rw [HY.out], HN.out.1.keep hk ?_, (HN.out.2.keep hk ?_).mono ?_, e2⟩
  · exact res_en rfl _ _ (B + 1) _ rfl e1
  · intro ad e
    cases gb with
    | none => cases e
    | some b => cases e; have := (HN.out.2 b rfl).1; exact fun e => by have e : b = B + 1 := e; omega
  · intro b e
    have := (HN.out.2 b e).1
    exact fun e => by omega
  · have := HB.out; omega
end Go.Proofs.YtppdopcghnfapaaGreatDoor

/- roster: the entries of which it is so, rising by contact. -/
set_option maxRecDepth 100000
namespace Go.Proofs.YtppdopcghnfapaaGreatDoor
open Go.RowKit Go.Joins Go.Shelf Go.Sort Go.Lib

/-- 'append(v, x)' of one element, its cells in a new block. -/
theorem wp_app1 (t e : TypeId) (z : Value) (size bytes : Nat) (ht : Tryz.prog.underlying t = some (.slice e)) (hif : (Tryz.prog.info? e).map (fun i => (i.zero, i.size, i.bytes)) = some (some z, size, bytes)) (hzs : z.cells.size = size) (hsz : 0 < size) (hby : bytes ≤ 100)
    {w : World} {ops : Array Oper} {rest : List Oper} {o : Oper} {a : Act} {Q : Exit → Act → World → Prop} (hgd : o.guard = none) (s x : Operand)
    (ho : o.op = .call { callee := .builtin .append, args := #[s, x], argTypes := #[t, t] })
    (base : Nat) (v : Value) (n : Nat) (xs : List Value) (hs : a.eval s = v) (hown : w.ownsRow base e size v n xs) (cs : Array Value) (hcs : cs.size = size) (hone : ∀ u ∈ cs.toList, u.oneCell' = true)
    (hx : a.eval x = .slice (some ⟨w.heap.size, 0, none⟩) 1 1) (hn : n ≤ 1000000) (hbase : base ≤ w.heap.size)
    (h : ∀ v' w', w'.ownsRow base e size v' (n + 1) (xs ++ cs.toList) → Keep (fun k => v.ownBlock = some k) w w' → (v' ≠ .slice none 0 0) → wpList Tryz.prog ops Q rest (a.put o.dst v') w') : wpList Tryz.prog ops Q (o :: rest) a (w.alloc (.cells cs e)) := by
  obtain ⟨i0, hi, hz0, hz1, hz2⟩ := info_parts hif
  have hk0 : Keep (fun k => v.ownBlock = some k) w (w.alloc (.cells cs e)) := (Keep.refl _ _).alloc _
  have hown1 : (w.alloc (.cells cs e)).ownsRow base e size v n xs := own_keep (S := fun _ => False) hown ((Keep.refl _ _).alloc _) (fun _ _ h => h)
  refine wpList_append_own (w.alloc (.cells cs e)) hgd s x t ho base e i0 z size bytes ht hi hz0 hz1 hz2 hzs hsz v n xs hs hown1 ⟨w.heap.size, 0, none⟩ 1 1 cs.toList hx (by simp [hcs]) (fun j u hu => ?_) hone (by unfold maxLen; omega) (by
    have : (n + 1) * bytes ≤ (1000000 + 1) * 100 := Nat.mul_le_mul (by omega) hby
    omega) (by simp; omega) ?_
  · rw [add_flat, Nat.zero_add, cell_of_block (alloc_at w (.cells cs e))]
    simpa using hu
  · intro v' w' k1 k2 k3
    refine h v' w' k1 (hk0.trans (Keep.ofGrown k2)) (fun e => ?_)
    have := k3.1 e
    omega
theorem infoEntry8 : (Tryz.prog.info? 51).map (fun i => (i.zero, i.size, i.bytes)) = some (some (env (en0 ⟨#[]⟩)), 8, 96) := by kernel_rfl
theorem ranges_keep {H : Type} {S : Nat → Prop} {w w' : World} {P : Program} {k : TypeId} {R : Value → Option (DataW H × List MemPlace)} {b r n : Nat} {D : DataW H} {left : Lit → Bool} {cnt : Nat} (h : w.ranges P k R b r n D left cnt) (hk : Keep S w w') (hb : ¬ S b) (hr : ¬ S r) : w'.ranges P k R b r n D left cnt := by
  have h1 := h.owns.lt
  have h2 := h.lt
  obtain ⟨es, clock, since, seen, c0, hb0, F, hs, hD, hr0, rest⟩ := h
  exact ⟨es, clock, since, seen, c0, (hk.block b h1 hb).trans hb0, F, hs, hD, (hk.block r h2 hr).trans hr0, rest⟩
theorem own_notTy {w : World} {B n : Nat} {v : Value} {xs : List Value} (h : w.ownsRow B 51 8 v n xs) {b : Nat} (hb : Ty w b) : ¬ v.ownBlock = some b := by
  rcases h.2 with ⟨rfl, _⟩ | ⟨g, cap, cur, rfl, _, hh, _⟩
  · intro e; cases e
  · intro e
    cases e
    obtain ⟨cur', h'⟩ := hb
    rw [hh] at h'
    injection h' with h'
    injection h' with _ h' _
    cases h'

theorem gad_some {g : Gr} {ad : Addr} (h : gad g = some ad) : g.1 = some ad.block := by
  unfold gad at h
  cases hg : g.1 with
  | none => rw [hg] at h; cases h
  | some b => rw [hg] at h; cases h; rfl
theorem ranges_notTy {H : Type} {w : World} {P : Program} {k : TypeId} {R : Value → Option (DataW H × List MemPlace)} {b r n : Nat} {D : DataW H} {left : Lit → Bool} {cnt : Nat} (h : w.ranges P k R b r n D left cnt) : ¬ Ty w r := by
  rintro ⟨cur, hc⟩
  obtain ⟨_, _, _, _, _, _, _, _, _, hit, _⟩ := h
  rw [hit] at hc
  cases hc
/-- What lies behind a roster's entries; G: the groups of a contact. -/
structure RW (w : World) (R : Ro) (G : ByteArray → List ByteArray) : Prop where
  gr : ∀ s x, R.m s = some x → GRd w (gad x.g) x.g.2.1 x.g.2.2 (G s) ∧ GB w 0 x.g
  le : ∀ s x, R.m s = some x → x.c = s ∧ x.c.size ≤ 1000000 ∧ x.nm.size ≤ 1000000 ∧ x.g.2.1 ≤ 100000
  tx : ∀ s x, R.m s = some x → ∀ t ∈ G s, t.size ≤ 281474976710656
theorem RW.keep {S : Nat → Prop} {w w' : World} {R : Ro} {G : ByteArray → List ByteArray} (h : RW w R G) (hk : Keep S w w') (hs : ∀ b, Ty w b → ¬ S b) : RW w' R G := by
  refine ⟨fun s x hx => ?_, h.le, h.tx⟩
  obtain ⟨h1, h2⟩ := h.gr s x hx
  exact ⟨h1.keep hk (fun ad e => hs ad.block (h2 ad.block (gad_some e)).2), h2.keep hk (fun b e => hs b (h2 b e).2)⟩
/-- A copy of an entry that the roster has. -/
def Copy (w : World) (B : Nat) (R : Ro) (G : ByteArray → List ByteArray) (e : En) : Prop :=
  ∃ x, R.m e.c = some x ∧ e = { x with g := e.g } ∧ GRd w (gad e.g) e.g.2.1 e.g.2.2 (G e.c) ∧ GB w B e.g
theorem Copy.keep {S : Nat → Prop} {w w' : World} {B : Nat} {R : Ro} {G : ByteArray → List ByteArray} {e : En} (h : Copy w B R G e) (hk : Keep S w w') (hs : ∀ b, Ty w b → ¬ S b) : Copy w' B R G e := by
  obtain ⟨x, hx, he, h1, h2⟩ := h
  exact ⟨x, hx, he, h1.keep hk (fun ad e => hs ad.block (h2 ad.block (gad_some e)).2), h2.keep hk (fun b e => hs b (h2 b e).2)⟩
theorem Copy.mono {w : World} {B C : Nat} {R : Ro} {G : ByteArray → List ByteArray} {e : En} (h : Copy w B R G e) (hc : C ≤ B) : Copy w C R G e := by
  obtain ⟨x, hx, he, h1, h2⟩ := h
  exact ⟨x, hx, he, h1, h2.mono hc⟩
def keyE (e : En) : List UInt8 := e.c.data.toList
def soP (R : Ro) (P : En → Bool) (z : List UInt8) : Bool := ((R.m ⟨z.toArray⟩).map P).getD false
theorem EMap.both {w : World} {b n : Nat} {m : ByteArray → Option En} (h : EMap w b n m) (l : List ByteArray) (hl : l.Nodup) (hm : ∀ s, (m s).isSome = true ↔ s ∈ l) :
    ∃ D : DataW Unit, w.ownsMap Tryz.prog 9 Re b n D ∧ (∀ s : ByteArray, (∀ z, D.atKey (kl s) z = ((m s).map ed).getD z) ∧ Maps.has D (kl s) = (m s).isSome) ∧ Maps.size D = l.length := by
  obtain ⟨D, hD, h2⟩ := h
  obtain ⟨D', hD', _, hsz⟩ := EMap.keys ⟨D, hD, h2⟩ l hl hm
  refine ⟨D, hD, h2, ?_⟩
  obtain ⟨es, clock, hb, F, h3, h4⟩ := hD
  obtain ⟨es', clock', hb', F', h3', h4'⟩ := hD'
  rw [hb] at hb'
  cases hb'
  rw [← hsz, h4, h4']
def oEn : Obj := .cells #[.string ⟨#[]⟩, .bool false, .string ⟨#[]⟩, .slice none 0 0, .int .i64 0, .int .u64 0, .int .i64 0, .int .u64 0] 51
/-- What chosen answers. -/
def Chose (w : World) (R : Ro) (G : ByteArray → List ByteArray) (P : En → Bool) (e : Ending) (w' : World) : Prop :=
  ∃ (v : Value) (es : List En), e = .returned v ∧ (es.map keyE).Perm ((R.ks.map fun s => s.data.toList).filter (soP R P)) ∧ w'.ownsRow w.heap.size 51 8 v es.length (ecs (sortE es)) ∧ (∀ e ∈ es, Copy w' w.heap.size R G e) ∧ Below w.heap.size w w'
set_option maxHeartbeats 4000000 in
theorem chosen_any (w : World) (q mb : Nat) (R : Ro) (h : RA w q mb R) (hks : R.ks.length ≤ 900000) (G : ByteArray → List ByteArray) (hW : RW w R G) (f : Nat) (P : En → Bool) (hent : ∀ args w, (callFunc f args).run Tryz.prog w = .ok (.enter f args) w)
    (hf : ∀ x W, Calls Tryz.prog f #[env x] W fun e w' => e = .returned (.bool (P x)) ∧ Below W.heap.size W w') :
    Calls Tryz.prog 47 #[.pointer (some ⟨q, 0, none⟩), .func (.func f) #[] #[]] w (Chose w R G P) := by
  have c4 := h.c4
  obtain ⟨D, hown, h2, hsz⟩ := h.map.both R.ks h.nd h.mem
  have H2 : Hid (∀ s : ByteArray, (∀ z, D.atKey (kl s) z = ((R.m s).map ed).getD z) ∧ Maps.has D (kl s) = (R.m s).isSome) := h2
  have HS : Hid (Maps.size D = R.ks.length) := hsz
  have HM : Hid (mb < w.heap.size) := h.map.lt
  have HA : Hid (RA w q mb R) := h
  have HK0 : Hid (R.ks.length ≤ 900000) := hks
  clear h2 hsz hks h
  obtain ⟨N, HN⟩ : ∃ N, Hid (R.ks.length = N) := ⟨_, rfl⟩
  rw [HN.out] at hown
  go_enter Tryz.func47, Tryz.ntmps47
  go_wp2_with (first
    | (at_range; refine wpList_range_own _ rfl _ 90 rfl 9 51 keyed Tryz.underlying90 _ mb N D rfl hown ?_; intro w0 hrg0 hg0 hs0))
  go_frame
  have HG0 : Hid (w.grownBy w0 none ∧ w0.heap.size = w.heap.size + 1) := ⟨hg0, hs0⟩
  clear hg0 hs0
  go_loopw [5] (fun s5 wr => ∃ (left : Lit → Bool) (cnt : Nat) (es : List En), wr.ranges Tryz.prog 9 Re mb w.heap.size N D left cnt ∧ Hid (es.length + cnt ≤ N) ∧ Hid (wr.ownsRow (w.heap.size + 1) 51 8 s5 es.length (ecs es)) ∧ Hid (CollP (soP R P) D left (es.map keyE)) ∧ Hid (∀ e ∈ es, Copy wr (w.heap.size + 1) R G e) ∧ Hid (Below w.heap.size w wr)) (fun _ wr => wr.rangeLeft mb w.heap.size)
  case atStart =>
    refine ⟨_, _, [], hrg0, ?_, ?_, CollP.start _ _, fun e he => (by cases he), (Keep.ofGrown HG0.out.1).below (Nat.le_refl _) (fun k hk => by cases hk)⟩
    · have := HS.out; have := HN.out; show 0 + _ ≤ _; omega
    · exact World.ownsRow_nil _ _ _ _
  case round =>
    obtain ⟨left, cnt, es, hrg, HC, HO, HP, HK, HB⟩ := hrel
    have ov := HO.out
    obtain ⟨av, cv, hv⟩ := ownT_sl ov
    subst hv
    go_wp2_with (first
      | (at_next; refine wpList_next_ranges _ rfl _ rfl 9 keyed Re encStr env (fun key kl hk => by obtain ⟨x, hx, _⟩ := Maps.keyOf_str Tryz.underlying9 hk; exact ⟨x, hx⟩) (fun v y hv => by obtain ⟨x, e, _⟩ := Re_some (yd := y.1) (yp := y.2) hv; exact ⟨x, e⟩) mb w.heap.size N D left cnt rfl hrg ?_ ?_))
    · intro hc0 hl0
      have hnd : (es.map (·.c)).Nodup := by
        refine List.pairwise_map.2 ((List.pairwise_map.1 HP.out.1).imp ?_)
        intro a b hab e
        exact hab (by unfold keyE; rw [e])
      have hperm : (es.map keyE).Perm ((R.ks.map fun s => s.data.toList).filter (soP R P)) := by
        refine HP.out.perm hl0 ?_ (fun z => ?_)
        · refine List.Pairwise.filter _ (List.pairwise_map.2 (HA.out.nd.imp ?_))
          intro a b hab e
          exact hab (ba_ext e)
        · rw [List.mem_filter, List.mem_map]
          have hz := (H2.out ⟨z.toArray⟩).2
          have hz2 : Maps.has D (.string z) = (R.m ⟨z.toArray⟩).isSome := hz
          rw [hz2, HA.out.mem]
          constructor
          · rintro ⟨⟨s, hs, rfl⟩, h2⟩; exact ⟨hs, h2⟩
          · rintro ⟨hs, h2⟩; exact ⟨⟨_, hs, rfl⟩, h2⟩
      have hle : es.length ≤ 1000000 := by have := HC.out; have := HN.out; have := HK0.out; omega
      have cS := sortE_any ov hle hnd
      clear hnd hle hc0 hl0
      go_wp2_with (go_at_call 85; refine cS.mono ?_; clear cS; rintro e w7 ⟨rfl, o7, k7⟩)
      go_ret
      have b7 : Below w.heap.size w w7 := HB.out.trans (k7.below HB.out.size (fun k hk => by have := (ov.lt k hk).1; omega))
      exact ⟨_, es, rfl, hperm, ⟨o7.1, o7.2.imp id (fun ⟨g, cap, cur, e, hb, r⟩ => ⟨g, cap, cur, e, by omega, r⟩)⟩, fun e he => ((HK.out e he).keep k7 (fun b hb => own_notTy ov hb)).mono (by omega), b7⟩
    · intro x c kl' yd yp w2 cnt2 hkey hlk hv hat hrg2 hlt hg2 hs2 hen
      obtain ⟨x', ex, rfl, hx0⟩ := Maps.keyOf_str Tryz.underlying9 hkey
      obtain rfl : x = x' := encStr_inj ex
      have hy : yd = ed c := by rw [Re_mk] at hv; injection hv with hv; injection hv with hv _; exact hv.symm
      have HMx : Hid (R.m ⟨x.toArray⟩ = some c) := ed_at (s := ⟨x.toArray⟩) (H2.out ⟨x.toArray⟩).1 (fun z => by show D.atKey (.string x) z = _; rw [hat z, hy])
      have HX : Hid (Maps.has D (.string x) = true) := by
        have := (H2.out ⟨x.toArray⟩).2
        rw [HMx.out] at this
        exact this
      have HL : Hid (left (.string x) = true) := hlk
      have HG2 : Hid (wr.grownBy w2 (some w.heap.size) ∧ w2.heap.size = wr.heap.size ∧ cnt2 < cnt) := ⟨hg2, hs2, hlt⟩
      have HR2 : Hid (w2.ranges Tryz.prog 9 Re mb w.heap.size N D (fun z => left z && !z.sameKey (.string x)) cnt2) := hrg2
      have HR1 : Hid (wr.ranges Tryz.prog 9 Re mb w.heap.size N D left cnt) := hrg
      have cF := hf c
      have HSo : Hid (soP R P x = P c) := by show soP R P x = P c; unfold soP; rw [HMx.out]; rfl
      obtain ⟨V, HV⟩ : ∃ V, Hid (env c = V) := ⟨_, rfl⟩
      rw [HV.out] at cF hen ⊢
      clear hkey hlk hv hat hg2 hs2 hlt hrg2 hrg ex hy
      go_upto_region 5 with (first
        | (refine wp_store_en rfl (.tmp 7) (.tmp 16) rfl w2.heap.size rfl c HV.out.symm (en0 ⟨#[]⟩) (push_at _ _ rfl) ?_))
      have A6 : Hid (EnAt ((w2.alloc oEn).setRow w2.heap.size (enc c)) w2.heap.size c ∧ Below w2.heap.size w2 ((w2.alloc oEn).setRow w2.heap.size (enc c))) :=
        ⟨EnAt.set (w := w2.alloc oEn) (x := en0 ⟨#[]⟩) (push_at _ _ rfl) _, (below1 w2 oEn).trans ((rowK (w2.alloc oEn) w2.heap.size _).below (by simp) (fun j e => by omega))⟩
      unfold oEn at A6
      simp only [Act.put]
      generalize (w2.alloc _).setRow _ _ = w6 at A6 ⊢
      have K6 : Hid (Keep (fun k => some w.heap.size = some k) wr w6) := (Keep.ofGrown HG2.out.1).trans (Keep.ofBelow A6.out.2)
      have R6 : Hid (w6.ranges Tryz.prog 9 Re mb w.heap.size N D (fun z => left z && !z.sameKey (.string x)) cnt2) := ranges_keep HR2.out (S := fun _ => False) (Keep.ofBelow A6.out.2) (fun h => h) (fun h => h)
      have B6 : Hid (Below w.heap.size w w6) := HB.out.trans (K6.out.below HB.out.size (fun k e => by cases e; exact Nat.le_refl _))
      have o6 : Hid (w6.ownsRow (w.heap.size + 1) 51 8 (.slice av es.length cv) es.length (ecs es)) := own_keep ov K6.out (fun k hk e => by have := (ov.lt k hk).1; cases e; omega)
      have C6 : Hid (∀ e ∈ es, Copy w6 (w.heap.size + 1) R G e) := fun e he => (HK.out e he).keep K6.out (fun b hb e => by cases e; exact ranges_notTy HR1.out hb)
      have E6 : Hid (EnAt w6 w2.heap.size c) := A6.out.1
      have HLT : Hid (cnt2 < cnt) := HG2.out.2.2
      clear A6 K6 HR2 HO ov HB HK HG2 hen hown
      generalize w2.heap.size = g at E6 ⊢
      cases hp : P c with
      | false =>
        rw [hp] at cF
        go_wp2_with (first
          | (refine wp_load_en rfl (.tmp 7) rfl g rfl c E6.out ?_; rw [HV.out])
          | (go_at_fn f; refine (cF _).mono ?_; clear cF; rintro e w7 ⟨rfl, hb7⟩))
        have R7 := ranges_keep R6.out (S := fun _ => False) (Keep.ofBelow hb7) (fun h => h) (fun h => h)
        refine ⟨⟨_, _, es, R7, ?_, own_keep (S := fun _ => False) o6.out (Keep.ofBelow hb7) (fun _ _ h => h), HP.out.no ?_, fun e he => (C6.out e he).keep (S := fun _ => False) (Keep.ofBelow hb7) (fun _ _ h => h), B6.out.trans (hb7.mono B6.out.size)⟩, ?_⟩
        · have := HC.out; have := HLT.out; show _ ≤ _; omega
        · rw [HSo.out]; exact hp
        · rw [R7.left_eq, HR1.out.left_eq]; exact HLT.out
      | true =>
        rw [hp] at cF
        have CC : Hid (∀ w', Below w.heap.size w w' → Calls Tryz.prog 81 #[V] w' fun e w'' => ∃ g : Gr, e = .returned (env { c with g := g }) ∧ GRd w'' (gad g) g.2.1 g.2.2 (G ⟨x.toArray⟩) ∧ GB w'' w'.heap.size g ∧ Below w'.heap.size w' w'') := by
          intro w' hb
          have hW' : RW w' R G := hW.keep (S := fun _ => False) ((Keep.ofBelow hb)) (fun _ _ h => h)
          obtain ⟨l1, l2, l3, l4⟩ := hW.le _ _ HMx.out
          have := copiedG_any c l2 l3 (G ⟨x.toArray⟩) w' (hW'.gr _ _ HMx.out).1 l4 (hW.tx _ _ HMx.out)
          rw [HV.out] at this
          exact this
        have HCx : Hid (c.c = ⟨x.toArray⟩) := (hW.le _ _ HMx.out).1
        have hL : Hid (w.heap.size + 1 ≤ w6.heap.size) := R6.out.lt
        clear hW
        have hN1 : Hid (es.length ≤ 900000) := by have := HC.out; have := HN.out; have := HK0.out; show _ ≤ _; omega
        go_wp2_with (first
          | (refine wp_load_en rfl (.tmp 7) rfl g rfl c E6.out ?_; rw [HV.out])
          | (go_at_fn f; refine (cF _).mono ?_; clear cF; rintro e w7 ⟨rfl, hb7⟩; have E7 : EnAt w7 g c := E6.out.carry hb7; have B7 : Below w.heap.size w w7 := B6.out.trans (hb7.mono B6.out.size); have cC := CC.out w7 B7)
          | (refine wp_load_en rfl (.tmp 7) rfl g rfl c E7 ?_; rw [HV.out])
          | (go_at_call 81; refine cC.mono ?_; clear cC; rintro e w8 ⟨g', rfl, hg8, hgb8, hb8⟩; have o8 : w8.ownsRow (w.heap.size + 1) 51 8 (.slice av es.length cv) es.length (ecs es) := own_keep (S := fun _ => False) (own_keep (S := fun _ => False) o6.out (Keep.ofBelow hb7) (fun _ _ h => h)) (Keep.ofBelow hb8) (fun _ _ h => h); have B8 : Below w.heap.size w w8 := B7.trans (hb8.mono B7.size); unfold env enc gsv; dsimp only)
          | (at_builtin; refine wp_app1 38 51 _ 8 96 Tryz.underlying38 infoEntry8 rfl (by decide) (by decide) rfl (.tmp 20) (.tmp 23) rfl (w.heap.size + 1) (.slice av es.length cv) es.length (ecs es) rfl o8 #[.string c.c, .bool c.k, .string c.nm, .slice (gad g') g'.2.1 g'.2.2, .int .i64 c.h.o, .int .u64 c.h.n, .int .i64 c.h.i, .int .u64 c.h.m] rfl (by simp [Value.oneCell']) rfl (by have := hN1.out; omega) (by have := hL.out; have := hb7.size; have := hb8.size; omega) ?_; intro v9 w9 o9 k9 n9))
        have R8 := ranges_keep (ranges_keep R6.out (S := fun _ => False) (Keep.ofBelow hb7) (fun h => h) (fun h => h)) (S := fun _ => False) (Keep.ofBelow hb8) (fun h => h) (fun h => h)
        have R9 := ranges_keep R8 k9 (fun e => by have := (o8.lt mb e).1; have := HM.out; omega) (fun e => by have := (o8.lt _ e).1; omega)
        have hkey : keyE { c with g := g' } = x := by show c.c.data.toList = x; rw [HCx.out]
        refine ⟨⟨_, _, es ++ [{ c with g := g' }], R9, ?_, ?_, ?_, ?_, ?_⟩, ?_⟩
        · have := HC.out; have := HLT.out; show (es ++ [_]).length + _ ≤ _; rw [List.length_append]; simp only [List.length_cons, List.length_nil]; omega
        · show World.ownsRow _ _ _ _ _ _ _
          rw [ecs_app, List.length_append, show ecs [{ c with g := g' }] = (enc { c with g := g' }).toList by simp [ecs]]
          exact o9
        · show CollP _ _ _ _
          rw [List.map_append, List.map_cons, List.map_nil, hkey]
          exact HP.out.yes (by rw [HSo.out]; exact hp) HL.out HX.out
        · intro e he
          rcases List.mem_append.1 he with h1 | h1
          · exact (((C6.out e h1).keep (S := fun _ => False) (Keep.ofBelow hb7) (fun _ _ h => h)).keep (S := fun _ => False) (Keep.ofBelow hb8) (fun _ _ h => h)).keep k9 (fun b hb => own_notTy o8 hb)
          · obtain rfl : e = { c with g := g' } := by simpa using h1
            refine ⟨c, by show R.m c.c = _; rw [HCx.out]; exact HMx.out, rfl, ?_, (hgb8.keep k9 (fun b e => own_notTy o8 (hgb8 b e).2)).mono (by have := hL.out; have := hb7.size; omega)⟩
            show GRd w9 (gad g') g'.2.1 g'.2.2 (G c.c)
            rw [HCx.out]
            exact hg8.keep k9 (fun ad e => own_notTy o8 (hgb8 ad.block (gad_some e)).2)
        · exact B8.trans (k9.below B8.size (fun k hk => by have := (o8.lt k hk).1; omega))
        · rw [R9.left_eq, HR1.out.left_eq]; exact HLT.out
end Go.Proofs.YtppdopcghnfapaaGreatDoor
