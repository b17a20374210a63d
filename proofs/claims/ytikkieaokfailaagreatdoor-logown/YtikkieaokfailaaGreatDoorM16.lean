/- Texts of one seat, one behind the other: LsA, LsB, LsC, LsD. -/
import Derived.Test.YtikkieaokfailaaGreatDoorM15
import Derived.Test.YtikkieaokfailaaGreatDoorM7
import Derived.Test.YtikkieaokfailaaGreatDoorM8
import Derived.BigQuiet
import Derived.Deep.QuietTactic
namespace Go.Proofs.YtikkieaokfailaaGreatDoor
open Go.RowKit Go.Joins
section
variable {g : Nat} {O : Nm → Option Fle} {k : Dk} {n : Nat} {B : Nat → List Int} {Z : Nat → Nat}
end
section
variable {g : Nat} {O : Nm → Option Fle} {m u : Nat} {c : Ch} {k : Dk} {all : List (List Int)}
end
end Go.Proofs.YtikkieaokfailaaGreatDoor

namespace Go.Proofs.YtikkieaokfailaaGreatDoor
open Go.RowKit Go.Joins
structure Gn (k : Dk) (g : Nat) (S : List (List (List Int))) : Prop where
 good : k.Good
 gl : 0 < g ∧ g < 18446744073709551616
 base : (g = 1 ∧ look k.fs sBase = none) ∨ look k.fs sBase = some ⟨baseL g, 12⟩
 yes : ∀ j, j < S.length → look k.fs (segN g (j + 1)) = some ⟨forms (S.getD j []), (forms (S.getD j [])).length⟩
 no : look k.fs (segN g (S.length + 1)) = none
 rl : ∀ t ∈ S, ∀ r ∈ t, r.length ≤ 1048576
 few : S.length ≤ 1000
theorem Gn.of {k k' : Dk} {g : Nat} {S : List (List (List Int))} (h : Gn k g S) (hg : k'.Good) (e : ∀ s, (s = sBase ∨ ∃ j, s = segN g (j + 1)) → look k'.fs s = look k.fs s) : Gn k' g S :=
 ⟨hg, h.gl, by rw [e sBase (Or.inl rfl)]; exact h.base, fun j hj => by rw [e _ (Or.inr ⟨j, rfl⟩)]; exact h.yes j hj, by rw [e _ (Or.inr ⟨_, rfl⟩)]; exact h.no, h.rl, h.few⟩
theorem Gn.rest {k : Dk} {g : Nat} {S : List (List (List Int))} (h : Gn k g S) (keep : List Int) (hg : (restK k keep).Good) : Gn (restK k keep) g S := by
 have hsome : ∀ s b, look k.fs s = some ⟨b, b.length⟩ → look (restL k.fs keep) s = some ⟨b, b.length⟩ := fun s b hs => by
  rcases look_restG k.fs keep s with ⟨e, _⟩ | ⟨f, x, q1, q2⟩
  ·rw [hs] at e; cases e
  ·rw [hs] at q1
   cases q1
   rw [q2, if_pos rfl]
 have hnone : ∀ s, look k.fs s = none → look (restL k.fs keep) s = none := fun s hs => by
  rcases look_restG k.fs keep s with ⟨_, e⟩ | ⟨f, x, q1, _⟩
  ·exact e
  ·rw [hs] at q1; cases q1
 refine ⟨hg, h.gl, ?_, fun j hj => hsome _ _ (h.yes j hj), hnone _ h.no, h.rl, h.few⟩
 rcases h.base with ⟨e1, e2⟩ | e
 ·exact Or.inl ⟨e1, hnone _ e2⟩
 ·refine Or.inr ?_
  have hl := baseL_len g
  have e' : look k.fs sBase = some ⟨baseL g, (baseL g).length⟩ := by rw [hl]; exact e
  have := hsome _ _ e'
  rw [hl] at this
  exact this
end Go.Proofs.YtikkieaokfailaaGreatDoor

namespace Go.Proofs.YtikkieaokfailaaGreatDoor
open Go.RowKit Go.Joins
end Go.Proofs.YtikkieaokfailaaGreatDoor

namespace Go.Proofs.YtikkieaokfailaaGreatDoor
open Go.ChangeShapes Go.WideShapes Go.ChangeAt Go.RowKit Go.Joins
def tw (xs : List (List Int)) : List (List Int) := (xs.take 12).map (List.take 200)
theorem tw_len (xs : List (List Int)) : (tw xs).length ≤ 12 := by unfold tw; rw [List.length_map, List.length_take]; omega
theorem tw_rl (xs : List (List Int)) : ∀ r ∈ tw xs, r.length ≤ 200 := fun r hr => by
 obtain ⟨x, _, rfl⟩ := List.mem_map.1 hr
 rw [List.length_take]
 omega
set_option maxHeartbeats 2000000 in
theorem twins_any (a : Option Addr) (n c : Nat) (xs : List (List Int)) (w : World) (hR : RRd w a n xs) :
  Calls Tryz.prog 28 #[.slice a n c] w fun e w' => ∃ v, e = .returned v ∧ RcA w' (fun i => w.heap.size ≤ i ∧ i < w'.heap.size) v (tw xs) ∧ Below w.heap.size w w' := by
 have Hn : Hid (xs.length = n) := hR.len
 have hnm := hR.most
 go_enter Tryz.func28, Tryz.ntmps28
 go_upto_region 3 with fail
 go_loopw [3, 4] (fun s3 s4 wr => ∃ (j : Nat) (v : Value), s3 = v ∧ s4 = .int .i64 j ∧ j ≤ n ∧ j ≤ 12 ∧ Hid (RcA wr (fun i => w.heap.size ≤ i ∧ i < wr.heap.size) v ((xs.take j).map (List.take 200))) ∧ Hid (Below w.heap.size w wr)) (fun _ s4 _ => 12 - (intOf s4).toNat)
 case atStart =>
  refine ⟨0, _, rfl, rfl, by omega, by omega, ?_, Below.refl _ _⟩
  show RcA _ _ _ ((xs.take 0).map _)
  rw [List.take_zero]
  exact rcA_nil _ _
 case round =>
  obtain ⟨j, v, rfl, rfl, hjn, hj12, HR, HB⟩ := hrel
  by_cases hlt : j < n ∧ j < 12
  ·have hcl : (j : Int) < (n : Int) := by omega
   have hcl12 : (j : Int) < 12 := by omega
   have hRr := hR.below HB.out
   obtain ⟨bb, off, rfl, hce⟩ := hRr.flat (by omega)
   obtain ⟨aj, nj, cj, hcj, hrj⟩ := hce j hlt.1
   clear hce hRr
   have hfew := few200O aj nj cj _ wr hrj
   have hbd := hrj.bytes.take 200
   obtain ⟨x, hx⟩ : ∃ x, xs[j]? = some x := ⟨_, List.getElem?_eq_getElem (by rw [Hn.out]; exact hlt.1)⟩
   have hxd : xs.getD j [] = x := by rw [List.getD_eq_getElem?_getD, hx]; rfl
   rw [hxd] at hfew hbd
   have HTk : Hid ((xs.take (j + 1)).map (List.take 200) = (xs.take j).map (List.take 200) ++ [x.take 200]) := by
    show _ = _
    rw [List.take_add_one, hx, List.map_append]
    rfl
   obtain ⟨⟨vs, ov, hvs⟩, hvo⟩ := HR.out
   have hlj : ((xs.take j).map (List.take 200)).length = j := by rw [List.length_map, List.length_take, Hn.out]; omega
   have HLj : Hid (((xs.take j).map (List.take 200)).length = j) := hlj
   have ovj := ov
   rw [hlj] at ovj
   obtain ⟨av, cv, hv⟩ := own_sl ovj
   subst hv
   obtain ⟨r, Hr⟩ : ∃ r, Hid (x.take 200 = r) := ⟨_, rfl⟩
   rw [Hr.out] at hfew hbd
   have HTk2 : Hid ((xs.take (j + 1)).map (List.take 200) = (xs.take j).map (List.take 200) ++ [r]) := by show _ = _; rw [HTk.out, Hr.out]
   clear hrj hx hxd hlj HTk
   go_wp2_with (first
    | (go_at_call 17; refine hfew.mono ?_; rintro e w5 ⟨a5, n5, c5, rfl, hn5, o5, hr5, hg5, hb5⟩; have ov5 := own_keep (S := fun _ => False) ovj (Keep.ofBelow hb5) (fun _ _ h => h))
    | (at_builtin; refine wp_appRow rfl (.tmp 15) (.tmp 21) rfl 0 (.slice av j cv) j vs rfl ov5 a5 n5 c5 rfl (by omega) (Nat.zero_le _) ?_; intro v6 w6 o6 hk6 hwh6; obtain ⟨a6, c6, rfl⟩ := own_sl o6))
   have h0s := HB.out.size
   have h5s := hb5.size
   have h6s := hk6.size
   have hlen := hr5.len
   have hB5 : Below w.heap.size w w5 := HB.out.trans (hb5.mono h0s)
   have hB6 : Below w.heap.size w w6 := hB5.trans (hk6.low hB5.size (fun i hi => (hvo i hi).1))
   have hR6 : RcA w6 (fun i => w.heap.size ≤ i ∧ i < w6.heap.size) (.slice a6 (j + 1) c6) ((xs.take j).map (List.take 200) ++ [r]) := by
    refine RcA.app (w := w5) (vs := vs) (v := .slice av j cv) (u := .slice a5 n5 c5) (by rw [HLj.out]; exact ov5) (fun i r hr => ?_) (by rw [HLj.out]; exact o6) hk6 (by rw [hlen]; exact own_weak o5 (Nat.zero_le _)) (fun g hg => ?_) hbd (fun g hg => ?_)
    ·obtain ⟨u2, m1, m2, m3, m4⟩ := hvs i r hr
     exact ⟨u2, m1, own_keep (S := fun _ => False) m2 (Keep.ofBelow hb5) (fun _ _ h => h), fun g hg => by have := m3 g hg; exact ⟨this.1, by omega⟩, m4⟩
    ·have := o5.lt g hg
     exact ⟨by omega, by omega⟩
    ·rcases hwh6 with h9 | ⟨g9, h9, h10⟩
     ·have := hvo g (by rw [← h9]; exact hg)
      exact ⟨this.1, by omega⟩
     ·rw [h9] at hg
      injection hg with hg
      subst hg
      refine ⟨by omega, ?_⟩
      obtain ⟨cur, e⟩ := own_blkT o6 h9
      exact (Array.getElem?_eq_some_iff.1 e).1
   exact ⟨⟨j + 1, _, rfl, by go_num, by omega, by omega, by show RcA _ _ _ _; rw [HTk2.out]; exact hR6, hB6⟩, by simp [intOf]; omega⟩
  ·have hend : ¬ (j : Int) < (n : Int) ∨ ((j : Int) < (n : Int) ∧ ¬ (j : Int) < 12) := by omega
   have hR9 := HR.out
   have e12 : xs.take j = xs.take 12 := by
    by_cases h12 : j = 12
    ·rw [h12]
    ·rw [List.take_of_length_le (by rw [Hn.out]; omega), List.take_of_length_le (by rw [Hn.out]; omega)]
   rw [e12] at hR9
   clear e12
   rcases hend with hcl | ⟨hcl, hcl12⟩ <;> (
    go_wp2
    go_ret
    exact ⟨_, rfl, hR9, HB.out⟩)
theorem RcA.rrd {w : World} {A : Nat → Prop} {al : Option Addr} {N cl : Nat} {rs : List (List Int)} (h : RcA w A (.slice al N cl) rs) (hN : rs.length = N) (hm : N ≤ 9223372036854775807) : RRd w al N rs := by
 refine ⟨hN, hm, fun h0 => ?_⟩
 obtain ⟨g, _, _, _, e, _⟩ := h.cell hN 0 h0
 refine ⟨g, 0, e, fun j hj => ?_⟩
 obtain ⟨g', a, n, c, e', h1, h2⟩ := h.cell hN j hj
 rw [e] at e'
 injection e' with e'
 injection e' with e'
 subst e'
 rw [Nat.zero_add]
 exact ⟨a, n, c, h1, h2⟩
theorem RcA.rnot {w : World} {A S : Nat → Prop} {al : Option Addr} {N cl : Nat} {rs : List (List Int)} (h : RcA w A (.slice al N cl) rs) (hN : rs.length = N) (hS : ∀ i, A i → ¬ S i) : RNot w al N S := by
 obtain ⟨⟨vs, ov, hvs⟩, hvo⟩ := h
 refine ⟨fun ad e => ?_, fun b off e j hj aj nj cj hc ad ha => ?_⟩
 ·rcases ov.2 with ⟨e1, _⟩ | ⟨g, cap, cur, e1, _⟩
  ·injection e1 with e1
   rw [e1] at e; cases e
  ·injection e1 with e1
   rw [e1] at e
   injection e with e
   rw [← e]
   exact hS g (hvo g (by rw [e1]; rfl))
 ·rcases ov.2 with ⟨e1, _⟩ | ⟨g, cap, cur, e1, _⟩
  ·injection e1 with e1
   rw [e1] at e; cases e
  ·have e1' := e1
   injection e1 with e1
   rw [e1] at e
   injection e with e
   injection e with e2 e3
   subst e2 e3
   obtain ⟨r, hr⟩ : ∃ r, rs[j]? = some r := ⟨_, List.getElem?_eq_getElem (by omega)⟩
   obtain ⟨u, h1, h2, h3, h4⟩ := hvs j r hr
   have ov2 := ov
   rw [e1'] at ov2
   have hc2 := ov2.cells (g := g) rfl j _ h1
   rw [add_flat] at hc2
   rw [hc] at hc2
   injection hc2 with hc2
   subst hc2
   subst ha
   rcases h2.2 with ⟨e5, _⟩ | ⟨g2, cap2, cur2, e5, _⟩
   ·injection e5 with e5; cases e5
   ·have e6 := e5
    injection e5 with e5
    injection e5 with e5
    subst e5
    exact hS g2 (h3 g2 rfl)
end Go.Proofs.YtikkieaokfailaaGreatDoor
