/- Texts of one seat, one behind the other: LgM, LgT, LrA, LrB. -/
import Derived.Test.YtikkieaokfailaaGreatDoorM6
import Derived.Test.YtikkieaokfailaaGreatDoorM5
namespace Go.Proofs.YtikkieaokfailaaGreatDoor
open Go.RowKit Go.Joins
def scanF : Nat → List Int → List (List Int) × Nat × Bool
 | 0, _ => ([], 0, true)
 | f + 1, xs => if xs.length = 0 then ([], 0, true) else match recO xs with
  | none => ([], 0, false)
  | some r => (r :: (scanF f (xs.drop (8 + r.length))).1, 8 + r.length + (scanF f (xs.drop (8 + r.length))).2.1, (scanF f (xs.drop (8 + r.length))).2.2)
theorem scanF_nil (f : Nat) (xs : List Int) (h : xs.length = 0) : scanF f xs = ([], 0, true) := by
 cases f with
 | zero => rfl
 | succ f => unfold scanF; rw [if_pos h]
theorem scanF_no {f : Nat} {xs : List Int} (h : xs.length ≠ 0) (h2 : recO xs = none) : scanF (f + 1) xs = ([], 0, false) := by
 unfold scanF; rw [if_neg h, h2]
theorem scanF_some {f : Nat} {xs r : List Int} (h : xs.length ≠ 0) (h2 : recO xs = some r) : scanF (f + 1) xs = (r :: (scanF f (xs.drop (8 + r.length))).1, 8 + r.length + (scanF f (xs.drop (8 + r.length))).2.1, (scanF f (xs.drop (8 + r.length))).2.2) := by
 conv => lhs; unfold scanF
 rw [if_neg h, h2]
theorem recO_len {xs r : List Int} (h : recO xs = some r) : 8 + r.length ≤ xs.length ∧ r.length ≤ 1048576 ∧ (Bd xs → Bd r) := by
 unfold recO at h
 split at h
 ·cases h
 ·rename_i h8
  split at h
  ·cases h
  ·rename_i hb
   split at h
   ·injection h with h
    subst h
    have hK : numL (xs.take 4) ≤ 1048576 ∧ numL (xs.take 4) ≤ xs.length - 8 := by omega
    refine ⟨?_, ?_, fun hx => (hx.drop 8).take _⟩
    ·rw [List.length_take, List.length_drop]; omega
    ·rw [List.length_take, List.length_drop]; omega
   ·cases h
def GsB (en : Nat) (b : Bool) (e : Ending) : Prop := (en = 0 ∧ e = .returned (.bool b)) ∨ (en ≠ 0 ∧ e = .panicked (gaveS en))
theorem gsb_no {en : Nat} {b : Bool} {e : Ending} (h : en ≠ 0) (he : e = .panicked (gaveS en)) : GsB en b e := Or.inr ⟨h, he⟩
def readSegR (l : Lg) (s : Nm) (k : Dk) (r : Nat × List Int) : Nat × Bool × Lg × Dk :=
 if r.1 ≠ 0 then (r.1, false, l, k)
 else if (scanF r.2.length r.2).2.2 then (0, true, ⟨l.most, l.recs ++ (scanF r.2.length r.2).1, { l.ch with size := (scanF r.2.length r.2).2.1 }, l.dn⟩, k)
 else ((stp l.dn k (cutK k s ((scanF r.2.length r.2).2.1 : Int))).1, false, ⟨l.most, l.recs ++ (scanF r.2.length r.2).1, { l.ch with size := (scanF r.2.length r.2).2.1 }, (stp l.dn k (cutK k s ((scanF r.2.length r.2).2.1 : Int))).2.1⟩, (stp l.dn k (cutK k s ((scanF r.2.length r.2).2.1 : Int))).2.2)
def readSegL (l : Lg) (i : Nat) (k : Dk) : Nat × Bool × Lg × Dk := readSegR l (segN l.ch.g i) k (readK k (segN l.ch.g i))
theorem add_rec {X w3 : World} {F H : Nat → Prop} {lb d : Nat} {l : Lg} {k : Dk} {v : Value} (h : LogAt X F H lb d l k) (hrecs : l.recs.length ≤ 1000000) (hLD : LD X F lb d l.most v l.ch l.dn k) (hRc : RcA X H v l.recs) (hb3 : Below X.heap.size X w3) {au : Option Addr} {n cu : Nat} {r : List Int} (ou : w3.ownsRow X.heap.size 5 1 (.slice au n cu) n (bc r)) (hn : r.length = n) (hbr : Bd r) :
  ∃ av cv w4, (Builtin.append_ #[30, 30] 30 #[v, .slice (some ⟨w3.heap.size, 0, none⟩) 1 1]).run Tryz.prog (w3.alloc (.cells #[.slice au n cu] 29)) = .ok (.slice av (l.recs.length + 1) cv) w4 ∧ Keep (fun q => v.ownBlock = some q) w3 w4 ∧ LD w4 F lb d l.most v l.ch l.dn k ∧
   ∃ H9 : Nat → Prop, LogAt (w4.setCell ⟨lb, 2, none⟩ (.slice av (l.recs.length + 1) cv)) F H9 lb d ⟨l.most, l.recs ++ [r], l.ch, l.dn⟩ k ∧ Keep (fun i => F i ∨ H i ∨ i = lb) X (w4.setCell ⟨lb, 2, none⟩ (.slice av (l.recs.length + 1) cv)) ∧ (∀ i, H9 i → H i ∨ X.heap.size ≤ i) := by
 have hL3 := hLD.below hb3
 have hR3 := hRc.keep (S := fun _ => False) (H' := H) (Keep.ofBelow hb3) (fun _ _ h => h) (fun _ h => h)
 have hP3 := h.pf.below hb3
 obtain ⟨⟨vs, ov, hvs⟩, hvo⟩ := hR3
 obtain ⟨v', w4, hrun4, ov4, hk4, hwh4⟩ := run_appW 30 ov au n cu hrecs (Nat.zero_le _)
 obtain ⟨av, cv, rfl⟩ := own_sl ov4
 have nlb : ¬ v.ownBlock = some lb := fun hv => h.hl (hvo lb hv)
 have hL4 : LD w4 F lb d l.most v l.ch l.dn k := hL3.keep hk4 (fun i hi hv => h.hf i (hvo i hv) hi) nlb
 have hL5 : LD (w4.setCell ⟨lb, 2, none⟩ (.slice av (l.recs.length + 1) cv)) F lb d l.most (.slice av (l.recs.length + 1) cv) l.ch l.dn k := hL4.set 2 _ rfl
 have hsz3 := hb3.size
 have hsz4 := hk4.size
 obtain ⟨H9, hH9⟩ : ∃ H9 : Nat → Prop, H9 = (fun i => H i ∨ (X.heap.size ≤ i ∧ i < w4.heap.size)) := ⟨_, rfl⟩
 have hHin : ∀ i, H i → H9 i := fun i hi => by rw [hH9]; exact Or.inl hi
 have hHout : ∀ i, H9 i → H i ∨ (X.heap.size ≤ i ∧ i < w4.heap.size) := fun i hi => by rw [hH9] at hi; exact hi
 have hu0 := own_weak ou (Nat.zero_le _)
 have hRA : RcA w4 H9 (.slice av (l.recs.length + 1) cv) (l.recs ++ [r]) := by
  refine RcA.app (vs := vs) (u := .slice au n cu) ov (fun i r hr => ?_) ov4 hk4 (by rw [hn]; exact hu0) (fun g hg => ?_) hbr (fun g hg => ?_)
  ·obtain ⟨u2, m1, m2, m3, m4⟩ := hvs i r hr
   exact ⟨u2, m1, m2, fun g hg => hHin g (m3 g hg), m4⟩
  ·rw [hH9]
   have := ou.lt g hg
   exact Or.inr ⟨this.1, by omega⟩
  ·rcases hwh4 with h9 | ⟨g9, h9, h10⟩
   ·exact hHin g (hvo g (by rw [← h9]; exact hg))
   ·rw [h9] at hg
    injection hg with hg
    subst hg
    rw [hH9]
    refine Or.inr ⟨by omega, ?_⟩
    obtain ⟨cur, e⟩ := own_blkT ov4 h9
    exact (Array.getElem?_eq_some_iff.1 e).1
 have hkS : Keep (fun i => i = lb) w4 (w4.setCell ⟨lb, 2, none⟩ (.slice av (l.recs.length + 1) cv)) := (Keep.refl (fun i => i = lb) w4).setCell (p := ⟨lb, 2, none⟩) rfl _
 have hlbX : lb < X.heap.size := hLD.lt
 have hFX := hLD.D.lt
 have hHlb : ¬ H9 lb := fun hh => (hHout lb hh).elim h.hl (fun h9 => by omega)
 have hRA5 := hRA.keep (H' := H9) hkS (fun i hi e => hHlb (by rw [← e]; exact hi)) (fun _ h => h)
 have hk34 : Keep (fun i => F i ∨ H i ∨ i = lb) X w4 := (Keep.ofBelow hb3).andThen hk4 (fun i hi hv => Or.inr (Or.inl (hvo i hv)))
 have hkE : Keep (fun i => F i ∨ H i ∨ i = lb) X (w4.setCell ⟨lb, 2, none⟩ (.slice av (l.recs.length + 1) cv)) := hk34.trans (hkS.mono (fun i e => Or.inr (Or.inr e)))
 have hPE : Pf (w4.setCell ⟨lb, 2, none⟩ (.slice av (l.recs.length + 1) cv)) F lb := ⟨h.pf.pw.keep hkE (fun hs => by
  rcases hs with hs | hs | hs
  ·have := h.pf.fl _ hs; omega
  ·have := h.ph _ hs; omega
  ·have := h.pf.ll; omega), hP3.fl, hP3.ll⟩
 refine ⟨av, cv, w4, hrun4, hk4, hL4, H9, ⟨⟨_, hL5, hRA5⟩, fun i hi hf => ?_, hHlb, fun i hi => ?_, hPE, fun i hi => ?_⟩, hkE, fun i hi => ?_⟩
 ·rcases hHout i hi with h9 | h9
  ·exact h.hf i h9 hf
  ·have := hFX i hf; omega
 ·have hs9 := hkS.size
  rcases hHout i hi with h9 | h9
  ·have := h.lt i h9; omega
  ·omega
 ·rcases hHout i hi with h9 | h9
  ·exact h.ph i h9
  ·have := h.pf.pw.at; omega
 ·rcases hHout i hi with h9 | h9
  ·exact Or.inl h9
  ·exact Or.inr h9.1
theorem LogAt.size {w : World} {F H : Nat → Prop} {lb d : Nat} {l : Lg} {k : Dk} (h : LogAt w F H lb d l k) (z : Nat) (u : Int) (hu : u = (z : Int)) : LogAt (w.setCell ⟨lb, 5, none⟩ (.int .i64 u)) F H lb d ⟨l.most, l.recs, { l.ch with size := z }, l.dn⟩ k := by
 obtain ⟨v, hLD, hRc⟩ := h.ex
 subst hu
 have hkS : Keep (fun i => i = lb) w (w.setCell ⟨lb, 5, none⟩ (.int .i64 (z : Int))) := (Keep.refl (fun i => i = lb) w).setCell (p := ⟨lb, 5, none⟩) rfl _
 exact ⟨⟨v, hLD.set 5 _ rfl, hRc.keep hkS (fun i hi e => h.hl (by rw [← e]; exact hi)) (fun _ h => h)⟩, h.hf, h.hl, fun i hi => Nat.lt_of_lt_of_le (h.lt i hi) hkS.size, ⟨h.pf.pw.keep hkS (by have := h.pf.ll; omega), h.pf.fl, h.pf.ll⟩, h.ph⟩
theorem Lgp.next {w w1 w2 : World} {F F1 H H1 : Nat → Prop} {lb d : Nat} {l : Lg} {k : Dk} (kp : Keep (fun i => F i ∨ H i ∨ i = lb) w w1) (e1 : ∀ i, F1 i → F i ∨ w.heap.size ≤ i) (e2 : ∀ i, H1 i → H i ∨ w.heap.size ≤ i) (h : Lgp w1 F1 H1 lb d l k w2) : Lgp w F H lb d l k w2 := by
 obtain ⟨F', H', h1, h2, h3, h4⟩ := h
 refine ⟨F', H', h1, kp.andThen h2 (fun i hi hs => ?_), fun i hi => ?_, fun i hi => ?_⟩
 ·rcases hs with hs | hs | hs
  ·rcases e1 i hs with h | h
   ·exact Or.inl h
   ·omega
  ·rcases e2 i hs with h | h
   ·exact Or.inr (Or.inl h)
   ·omega
  ·exact Or.inr (Or.inr hs)
 ·rcases h3 i hi with h | h
  ·exact e1 i h
  ·exact Or.inr (Nat.le_trans kp.size h)
 ·rcases h4 i hi with h | h
  ·exact e2 i h
  ·exact Or.inr (Nat.le_trans kp.size h)
theorem LogAt.stepd {w w' : World} {F H : Nat → Prop} {lb d : Nat} {l : Lg} {k k' : Dk} {v : Value} {dn' : Bool} (h : LogAt w F H lb d l k) (hRc : RcA w H v l.recs) (hp : Lp w F lb d l.most v l.ch dn' k' w') : Lgp w F H lb d ⟨l.most, l.recs, l.ch, dn'⟩ k' w' := by
 obtain ⟨F', h1, h2, h3⟩ := hp
 refine ⟨F', H, ⟨⟨v, h1, hRc.keep h2 (fun i hi hs => hs.elim (h.hf i hi) (fun e => h.hl (by rw [← e]; exact hi))) (fun _ h => h)⟩, fun i hi hf => ?_, h.hl, fun i hi => Nat.lt_of_lt_of_le (h.lt i hi) h2.size, h.pf.next h2 h3, h.ph⟩, h2.mono (fun i hi => hi.elim Or.inl (fun h => Or.inr (Or.inr h))), h3, fun i hi => Or.inl hi⟩
 rcases h3 i hf with h4 | h4
 ·exact h.hf i hi h4
 ·have := h.lt i hi; omega
set_option maxHeartbeats 8000000 in
set_option maxRecDepth 100000 in
theorem readSeg_any (w : World) (F H : Nat → Prop) (lb d : Nat) (l : Lg) (k : Dk) (i : Nat) (h : LogAt w F H lb d l k) (ok : l.Ok) (hi : i ≤ 1000000) (hst : k.steps < 999999) (hfl : k.fs.length < 999999) (hrl : l.recs.length + (readK k (segN l.ch.g i)).2.length ≤ 900000) :
  Calls Tryz.prog 135 #[.pointer (some ⟨lb, 0, none⟩), .int .i64 (i : Int)] w fun e w' => GsB (readSegL l i k).1 (readSegL l i k).2.1 e ∧ Lgp w F H lb d (readSegL l i k).2.2.1 (readSegL l i k).2.2.2 w' := by
 obtain ⟨v, hLD, hRc⟩ := h.ex
 have hF := hLD.D.lt
 have hH := h.lt
 have hlb := hLD.lt
 have hsg := fun w' (hb : Below w.heap.size w w') => segment_any lb 3 l.ch.g i ok.g (by omega) w' (h.pf.pw.below hb) (hLD.below hb).c3
 unfold readSegL
 have hss := segN_size l.ch.g i ok.g (by omega)
 obtain ⟨s, Hs⟩ : ∃ s, Hid (segN l.ch.g i = s) := ⟨_, rfl⟩
 rw [Hs.out] at hrl hss ⊢
 simp only [Hs.out] at hsg
 have hrd := fun w' (hb : Below w.heap.size w w') => read_any d F k s w' (hLD.D.below hb)
 have hbd : Bd (readK k s).2 := by
  rcases readK_cases' k s with ⟨f, hl, e⟩ | e
  ·rw [e]; dsimp only; exact (look_good hLD.D.good hl).2.2
  ·rw [e]; exact Bd.nil
 obtain ⟨P, HP⟩ : ∃ P, Hid (readK k s = P) := ⟨_, rfl⟩
 simp only [HP.out] at hrd
 rw [HP.out] at hrl hbd ⊢
 obtain ⟨en, xs⟩ := P
 dsimp only at hrd hrl hbd
 obtain ⟨R, HR⟩ : ∃ R, Hid (readSegR l s k (en, xs) = R) := ⟨_, rfl⟩
 rw [HR.out]
 obtain ⟨eR, bR, lR, kR⟩ := R
 dsimp only
 have hbe : Below w.heap.size w (w.alloc (.cells #[.pointer (some ⟨lb, 0, none⟩)] 48)) := (Below.refl _ _).alloc (Nat.le_refl _) _
 have q0 : (w.alloc (.cells #[.pointer (some ⟨lb, 0, none⟩)] 48)).cell? ⟨w.heap.size, 0, none⟩ = some (.pointer (some ⟨lb, 0, none⟩)) := box_cell (alloc_at w _)
 go_enter Tryz.func135, Tryz.ntmps135
 go_upto_region 2 with (first
  | (go_at_call 103; refine (hsg _ hbe).mono ?_; rintro e w1 ⟨rfl, hb1⟩))
 have hbZ : Below w.heap.size w (w1.alloc (.cells #[.string s] 9)) := (hbe.trans (hb1.mono hbe.size)).alloc (Nat.le_trans hbe.size hb1.size) _
 have hbl0 : w1.heap[w.heap.size]? = some (.cells #[.pointer (some ⟨lb, 0, none⟩)] 48 (0, 0)) := box_below (alloc_at w _) hb1
 have hbl : (w1.alloc (.cells #[.string s] 9)).heap[w.heap.size]? = some (.cells #[.pointer (some ⟨lb, 0, none⟩)] 48 (0, 0)) := box_below hbl0 ((Below.refl _ _).alloc (Nat.le_refl _) _)
 have hbn := alloc_at w1 (.cells #[.string s] 9)
 have hblt : w.heap.size < w1.heap.size := (Array.getElem?_eq_some_iff.1 hbl0).1
 obtain ⟨bl, hble⟩ : ∃ bl, w.heap.size = bl := ⟨_, rfl⟩
 obtain ⟨bn, hbne⟩ : ∃ bn, w1.heap.size = bn := ⟨_, rfl⟩
 rw [hble] at hbl hblt ⊢
 rw [hbne] at hbn hblt ⊢
 have nbl : ¬ F bl := fun hf => by have := hF _ hf; omega
 have nbn : ¬ F bn := fun hf => by have := hF _ hf; omega
 have nhl : ¬ H bl := fun hf => by have := hH _ hf; omega
 have nhn : ¬ H bn := fun hf => by have := hH _ hf; omega
 generalize w1.alloc (.cells #[.string s] 9) = Z at *
 clear hsg hbl0 q0 hbe
 refine wp_region_lx (fun w' => w'.cell? ⟨bl, 0, none⟩ = some (.pointer (some ⟨lb, 0, none⟩)) ∧ w'.cell? ⟨bn, 0, none⟩ = some (.string s) ∧ w'.cell? ⟨lb, 0, none⟩ = some (.pointer (some ⟨d, 0, none⟩))) [] 11 (by kernel_rfl) (by kernel_rfl) ?_
 have hbX : Below w.heap.size w Z.drew := hbZ.drew
 have hblX : Z.drew.heap[bl]? = some (.cells #[.pointer (some ⟨lb, 0, none⟩)] 48 (0, 0)) := hbl
 have hbnX : Z.drew.heap[bn]? = some (.cells #[.string s] 9 (0, 0)) := hbn
 clear hbZ hbl hbn
 generalize Z.drew = X at *
 have HS0 : X.cell? ⟨bl, 0, none⟩ = some (.pointer (some ⟨lb, 0, none⟩)) ∧ X.cell? ⟨bn, 0, none⟩ = some (.string s) ∧ X.cell? ⟨lb, 0, none⟩ = some (.pointer (some ⟨d, 0, none⟩)) := ⟨box_cell hblX, box_cell hbnX, (hLD.below hbX).c0⟩
 refine lx_r 0 (.pointer (some ⟨lb, 0, none⟩)) HS0 ?_ (hv := fun w' hS => by have q := hS.1; first | (go_simp; rfl) | go_simp); simp only [lxa, lxb, lxc]
 refine lx_r 1 (.pointer (some ⟨lb, 0, none⟩)) HS0 ?_; simp only [lxa, lxb, lxc]
 refine lx_r 2 (.pointer (some ⟨lb, 0, none⟩)) HS0 ?_; simp only [lxa, lxb, lxc]
 refine lx_r 3 (.pointer (some ⟨d, 0, none⟩)) HS0 ?_ (hv := fun w' hS => by have q := hS.2.2; first | (go_simp; rfl) | go_simp); simp only [lxa, lxb, lxc]
 refine lx_r 4 (.string s) HS0 ?_ (hv := fun w' hS => by have q := hS.2.1; first | (go_simp; rfl) | go_simp); simp only [lxa, lxb, lxc]
 refine lx_one 5 (by kernel_rfl) (stepT_call 38 ?a5 rfl rfl rfl ?r5 ?_)
 case r5 => first | (go_simp; rfl) | go_simp
 refine (hrd X hbX).mono ?_
 rintro e w3 ⟨v3, rfl, o3, hb3⟩
 obtain ⟨a6, c6, rfl, r6⟩ := Rd.ofOwn o3 hbd
 have t3 : ∀ p x, X.cell? p = some x → w3.cell? p = some x := fun p x hx => (hb3.cell (World.block_lt_of_cell? _ _ hx)).trans hx
 have HS3 := And.intro (t3 _ _ HS0.1) (And.intro (t3 _ _ HS0.2.1) (t3 _ _ HS0.2.2))
 refine ⟨_, rfl, fun _ => HS3, ?_⟩
 simp only [lxa, lxb, lxc]
 refine lx_r 6 _ HS3 ?_; simp only [lxa, lxb, lxc]
 refine lx_r 7 _ HS3 ?_; simp only [lxa, lxb, lxc]
 refine lx_r 8 _ HS3 ?_; simp only [lxa, lxb, lxc]
 refine lx_r 9 _ HS3 ?_; simp only [lxa, lxb, lxc]
 refine lx_r 10 _ HS3 ?_; simp only [lxa, lxb, lxc]
 refine lx_nil (by kernel_rfl) ?_
 have hbw3 : Below w.heap.size w w3 := hbX.trans (hb3.mono hbX.size)
 have h3 := h.below hbw3
 have hbl3 := box_below hblX hb3
 have hbn3 := box_below hbnX hb3
 have hnX : bn < X.heap.size := (Array.getElem?_eq_some_iff.1 hbnX).1
 have hrowX : ∀ ad, a6 = some ad → X.heap.size ≤ ad.block ∧ ad.block < w3.heap.size := fun ad had => by
  obtain ⟨ap, cp, e8, hob8⟩ := own_form o3
  exact o3.lt ad.block (by rw [had]; cases ap with | none => (rw [had] at e8; cases e8) | some g => (rw [had] at e8; cases e8; rfl))
 have hrow0 : ∀ ad, a6 = some ad → ∃ g, ad = ⟨g, 0, none⟩ := fun ad had => by
  obtain ⟨ap, cp, e8, hob8⟩ := own_form o3
  rw [had] at e8
  cases ap with
  | none => cases e8
  | some g => cases e8; exact ⟨g, rfl⟩
 clear hrd HS0 HS3 t3 hblX hbnX hb3 o3 hb1
 obtain ⟨N, HN⟩ : ∃ N, Hid (xs.length = N) := ⟨_, rfl⟩
 rw [HN.out] at hrl r6 ⊢
 by_cases h0 : en = 0
 ·subst h0
  obtain ⟨SC, HSc⟩ : ∃ SC, Hid (scanF N xs = SC) := ⟨_, rfl⟩
  obtain ⟨RS, NS, WH⟩ := SC
  have hRy : WH = true → (eR, bR, lR, kR) = (0, true, (⟨l.most, l.recs ++ RS, { l.ch with size := NS }, l.dn⟩ : Lg), k) := fun hw => by
   rw [← HR.out]
   unfold readSegR
   dsimp only
   rw [if_neg (by simp), HN.out, HSc.out, if_pos hw]
  have hRn : WH = false → (eR, bR, lR, kR) = ((stp l.dn k (cutK k s (NS : Int))).1, false, (⟨l.most, l.recs ++ RS, { l.ch with size := NS }, (stp l.dn k (cutK k s (NS : Int))).2.1⟩ : Lg), (stp l.dn k (cutK k s (NS : Int))).2.2) := fun hw => by
   rw [← HR.out]
   unfold readSegR
   dsimp only
   rw [if_neg (by simp), HN.out, HSc.out, if_neg (by rw [hw]; exact fun h => by cases h)]
  have HRy : Hid (WH = true → (eR, bR, lR, kR) = (0, true, (⟨l.most, l.recs ++ RS, { l.ch with size := NS }, l.dn⟩ : Lg), k)) := hRy
  have HRn : Hid (WH = false → (eR, bR, lR, kR) = ((stp l.dn k (cutK k s (NS : Int))).1, false, (⟨l.most, l.recs ++ RS, { l.ch with size := NS }, (stp l.dn k (cutK k s (NS : Int))).2.1⟩ : Lg), (stp l.dn k (cutK k s (NS : Int))).2.2)) := hRn
  clear hRy hRn HR
  obtain ⟨v3, hL3, hRc3⟩ := h3.ex
  have p5 := hL3.c5
  have z5 := hL3.fz 5
  have pl := box_cell hbl3
  have h4 := h3.size 0 0 rfl
  have hk4 : Keep (fun i => i = lb) w3 (w3.setCell ⟨lb, 5, none⟩ (.int .i64 0)) := (Keep.refl (fun i => i = lb) w3).setCell (p := ⟨lb, 5, none⟩) rfl _
  have hsw3 := hbw3.size
  have nbl2 : bl ≠ lb := by omega
  have nbn2 : bn ≠ lb := by omega
  have hbl4 := box_keep hbl3 hk4 nbl2
  have hbn4 := box_keep hbn3 hk4 nbn2
  have hXw : w.heap.size ≤ X.heap.size := hbX.size
  have r7 := r6.keep hk4 (fun ad had e => by have := hrowX ad had; omega)
  have kp4 : Keep (fun i => F i ∨ H i ∨ i = lb) w (w3.setCell ⟨lb, 5, none⟩ (.int .i64 0)) := (Keep.ofBelow hbw3).trans (hk4.mono (fun i e => Or.inr (Or.inr e)))
  have hn9 : N ≤ 900000 := by omega
  go_upto_region 5 with (first
   | (go_at_call 129; refine (sask_ok _ _).mono ?_; rintro e w5 ⟨rfl, h5⟩; replace h5 := h5.symm; subst h5))
  generalize w3.setCell ⟨lb, 5, none⟩ (.int .i64 0) = w4 at *
  have hB0 : ∀ i, H i → i ≠ bl ∧ i ≠ bn ∧ ∀ ad, a6 = some ad → i ≠ ad.block := fun i hi => by
   have h9 := hH i hi
   exact ⟨by omega, by omega, fun ad had e => by have := hrowX ad had; omega⟩
  clear p5 z5 pl hL3 hRc3 h3 hbl3 hbn3 r6 hk4 hbw3
  go_loopg [8, 9] N (fun gk s8 s9 wr => ∃ (sz f : Nat) (rs R1 : List (List Int)) (n1 : Nat) (H1 : Nat → Prop), sz + gk = N ∧ N - sz ≤ f ∧ 8 * rs.length ≤ sz ∧ Hid (LogAt wr F H1 lb d ⟨l.most, l.recs ++ rs, { l.ch with size := sz }, l.dn⟩ k) ∧ Hid (Keep (fun i => F i ∨ H i ∨ i = lb) w wr) ∧ Hid (∀ i, H1 i → H i ∨ w.heap.size ≤ i) ∧ Hid (∀ i, H1 i → i ≠ bl ∧ i ≠ bn ∧ ∀ ad, a6 = some ad → i ≠ ad.block) ∧ Hid (wr.heap[bl]? = some (.cells #[.pointer (some ⟨lb, 0, none⟩)] 48 (0, 0))) ∧ Hid (wr.heap[bn]? = some (.cells #[.string s] 9 (0, 0))) ∧ Hid (Rd wr a6 N c6 xs) ∧ Hid (scanF f (xs.drop sz) = (R1, n1, WH)) ∧ Hid (rs ++ R1 = RS ∧ sz + n1 = NS))
  case atStart =>
   refine ⟨0, N, [], RS, NS, H, by omega, by omega, by simp, ?_, kp4, fun i hi => Or.inl hi, hB0, hbl4, hbn4, r7, HSc.out, ⟨rfl, by omega⟩⟩
   show LogAt w4 F H lb d ⟨l.most, l.recs ++ [], { l.ch with size := 0 }, l.dn⟩ k
   rw [List.append_nil]
   exact h4
  case round =>
   clear h4 kp4 hB0 hbl4 hbn4 r7 HSc
   obtain ⟨sz, f, rs, R1, n1, H1, hsg, hNf, hrs8, HL, HK, HH, HB, HX1, HX2, HRd, HSc, HEq⟩ := hrel
   obtain ⟨vr, hLr, hRcr⟩ := HL.out.ex
   dsimp only at hLr hRcr
   have q5 : wr.cell? ⟨lb, 5, none⟩ = some (.int .i64 (sz : Int)) := hLr.c5
   have ql := box_cell HX1.out
   by_cases hlt : sz < N
   ·have hz1 : (sz : Int) < (N : Int) := by omega
    have hz0 : (0 : Int) ≤ (sz : Int) := by omega
    have hcap := HRd.out.cap
    have hmost : c6 ≤ 9223372036854775807 := HRd.out.most
    have hz2 : (N : Int) ≤ (c6 : Int) := by omega
    have hz3 : ¬ c6 = sz := by omega
    obtain ⟨gr, hgr⟩ : ∃ gr, a6 = some ⟨gr, 0, none⟩ := by
     cases ha : a6 with
     | none => have := HRd.out.nil ha; omega
     | some ad => obtain ⟨g, hg⟩ := hrow0 ad ha; exact ⟨g, by rw [hg]⟩
    subst hgr
    have hrd0 := HRd.out.dropN (k := sz) (by omega)
    rw [Nat.zero_add] at hrd0
    have hrec := record_any gr sz (N - sz) (c6 - sz) (xs.drop sz) wr hrd0 (by omega)
    have hdl : (xs.drop sz).length ≠ 0 := by rw [hrd0.len]; omega
    obtain ⟨f2, rfl⟩ : ∃ f2, f = f2 + 1 := ⟨f - 1, by omega⟩
    cases hro : recO (xs.drop sz) with
    | none =>
     have hR1 : ∀ e, Rec1 wr (xs.drop sz) e = ∃ v, e = .returned (.tuple #[v, .bool false]) := fun e => by unfold Rec1; rw [hro]
     simp only [hR1] at hrec
     have hsc := HSc.out.symm.trans (scanF_no hdl hro)
     simp only [Prod.mk.injEq] at hsc
     obtain ⟨e1, e2, e3⟩ := hsc
     subst e1 e2
     have hE2 := HEq.out
     rw [List.append_nil, Nat.add_zero] at hE2
     obtain ⟨e4, e5⟩ := hE2
     have hfin := HRn.out e3
     rw [← e4, ← e5] at hfin
     have hst9 := fun wq (hbq : Below wr.heap.size wr wq) => step_any 155 #[.pointer (some ⟨bl, 0, none⟩), .pointer (some ⟨bn, 0, none⟩)] (cutK k s (sz : Int)) wq F lb d l.most vr { l.ch with size := sz } l.dn k (hLr.below hbq) (enters_of Tryz.func155 (by kernel_rfl) rfl) (cutC_any bl bn lb d l.most F vr { l.ch with size := sz } l.dn k s (by omega) (by omega) wq (hLr.below hbq) (box_below HX1.out hbq) (box_below HX2.out hbq) nbl nbn)
     obtain ⟨P, HP9⟩ : ∃ P, Hid (stp l.dn k (cutK k s (sz : Int)) = P) := ⟨_, rfl⟩
     simp only [HP9.out] at hst9
     rw [HP9.out] at hfin
     obtain ⟨en, dn2, k2⟩ := P
     dsimp only at hst9 hfin
     simp only [Prod.mk.injEq] at hfin
     obtain ⟨g1, g2, g3, g4⟩ := hfin
     have hmf : ∀ (fn : Fn) (first cap : Array Value) (w : World), (Instr.makeFunc fn first cap).run Tryz.prog w = .ok (.func fn first cap) w := fun _ _ _ _ => rfl
     have hdone : ∀ wq w9, Below wr.heap.size wr wq → Lp wq F lb d l.most vr { l.ch with size := sz } dn2 k2 w9 → Lgp w F H lb d ⟨l.most, l.recs ++ rs, { l.ch with size := sz }, dn2⟩ k2 w9 := fun wq w9 hbq hp =>
      Lgp.next HK.out (fun i hi => Or.inl hi) HH.out (Lgp.from hbq (LogAt.stepd (HL.out.below hbq) (hRcr.keep (S := fun _ => False) (Keep.ofBelow hbq) (fun _ _ h => h) (fun _ h => h)) hp))
     subst eR bR lR kR
     clear HRy HRn HSc HEq hR1 hro hrd0 e3 e4 e5
     by_cases h0 : en = 0
     ·subst h0
      go_wp2_with (first
       | (go_at_call 154; refine hrec.mono ?_; rintro e w8 ⟨⟨vq, rfl⟩, hb8⟩; have ql8 := box_cell (box_below HX1.out hb8))
       | (go_at_call 117; refine ((hst9 w8 hb8).mono (fun e w' h => And.intro (h.1.elim (fun k => k.2) (fun k => absurd rfl k.1)) h.2 : ∀ e w', _ → (e = .returned (.tuple #[]) ∧ _))).mono ?_; rintro e w9 ⟨rfl, hp⟩))
      go_ret
      exact ⟨Or.inl ⟨rfl, rfl⟩, hdone w8 w9 hb8 hp⟩
     ·go_wp2_with (first
       | (go_at_call 154; refine hrec.mono ?_; rintro e w8 ⟨⟨vq, rfl⟩, hb8⟩; have ql8 := box_cell (box_below HX1.out hb8))
       | (go_at_call 117; refine ((hst9 w8 hb8).mono (fun e w' h => And.intro (h.1.elim (fun k => absurd k.1 h0) (fun k => k.2)) h.2 : ∀ e w', _ → (e = .panicked (gaveS en) ∧ _))).mono ?_; rintro e w9 ⟨rfl, hp⟩))
      exact ⟨rfl, gsb_no h0 rfl, hdone w8 w9 hb8 hp⟩
    | some r =>
     obtain ⟨hr1, hr2, hr3⟩ := recO_len hro
     have hbr := hr3 hrd0.bytes
     rw [hrd0.len] at hr1
     have hR1 : ∀ e, Rec1 wr (xs.drop sz) e = ∃ a' c', e = .returned (.tuple #[.slice a' r.length c', .bool true]) ∧ Rd wr a' r.length c' r := fun e => by unfold Rec1; rw [hro]
     simp only [hR1] at hrec
     have hsc := HSc.out.symm.trans (scanF_some hdl hro)
     rw [List.drop_drop] at hsc
     obtain ⟨M, HM⟩ : ∃ M, Hid (r.length = M) := ⟨_, rfl⟩
     rw [HM.out] at hsc hr1 hr2 hrec
     obtain ⟨SQ, HSQ⟩ : ∃ SQ, Hid (scanF f2 (xs.drop (sz + (8 + M))) = SQ) := ⟨_, rfl⟩
     rw [HSQ.out] at hsc
     obtain ⟨R2, n2, WH2⟩ := SQ
     simp only [Prod.mk.injEq] at hsc
     obtain ⟨e1, e2, e3⟩ := hsc
     subst e1 e2 e3
     clear HSc hro hR1 hdl hrd0 HRy HRn
     go_upto_region 10 with (first
      | (go_at_call 154; refine hrec.mono ?_; rintro e w8 ⟨⟨a8, c8, rfl, r8⟩, hb8⟩))
     refine wp_region_lx (fun w' => w'.cell? ⟨bl, 0, none⟩ = some (.pointer (some ⟨lb, 0, none⟩)) ∧ w'.cell? ⟨lb, 2, none⟩ = some vr) [11] 12 (by kernel_rfl) (by kernel_rfl) ?_
     have hb8d : Below wr.heap.size wr w8.drew := hb8.drew
     clear hrec hb8 q5 ql
     generalize w8.drew = Y at *
     have hLY := HL.out.below hb8d
     have hLDY := hLr.below hb8d
     have hRcY := hRcr.keep (S := fun _ => False) (H' := H1) (Keep.ofBelow hb8d) (fun _ _ h => h) (fun _ h => h)
     have hrY := r8.carry (Nat.le_refl _) hb8d
     have hX1 := box_below HX1.out hb8d
     have hX2 := box_below HX2.out hb8d
     have hRdY := HRd.out.carry (Nat.le_refl _) hb8d
     have hKY := HK.out.trans (Keep.ofBelow hb8d)
     have hsY := hKY.size
     have HSY : Y.cell? ⟨bl, 0, none⟩ = some (.pointer (some ⟨lb, 0, none⟩)) ∧ Y.cell? ⟨lb, 2, none⟩ = some vr := ⟨box_cell hX1, hLDY.c2⟩
     refine lx_r 0 (.pointer (some ⟨lb, 0, none⟩)) HSY ?_ (hv := fun w' hS => by have q := hS.1; first | (go_simp; rfl) | go_simp); simp only [lxa, lxb, lxc]
     refine lx_r 1 (.pointer (some ⟨lb, 0, none⟩)) HSY ?_ (hv := fun w' hS => by have q := hS.1; first | (go_simp; rfl) | go_simp); simp only [lxa, lxb, lxc]
     refine lx_r 2 (.pointer (some ⟨lb, 0, none⟩)) HSY ?_; simp only [lxa, lxb, lxc]
     refine lx_r 3 (.pointer (some ⟨lb, 2, none⟩)) HSY ?_; simp only [lxa, lxb, lxc]
     refine lx_r 4 vr HSY ?_ (hv := fun w' hS => by have q := hS.2; first | (go_simp; rfl) | go_simp); simp only [lxa, lxb, lxc]
     refine lx_r 5 _ HSY ?_; simp only [lxa, lxb, lxc]
     refine lx_one 6 (by kernel_rfl) (stepT_call 66 ?a6 rfl rfl rfl ?r6 ?_)
     case r6 => first | (go_simp; rfl) | go_simp
     refine (bcloneO a8 M c8 r Y hrY (by omega)).mono ?_
     rintro e w9 ⟨u, rfl, ou, hb9⟩
     obtain ⟨au, cu, rfl, _⟩ := Rd.ofOwn ou hbr
     obtain ⟨av, cv, w10, hrun, hk10, hL10, H9, hA9, hkE, hH9⟩ := add_rec hLY (by simp; omega) hLDY hRcY hb9 ou HM.out hbr
     have t9 : ∀ p x, Y.cell? p = some x → w9.cell? p = some x := fun p x hx => (hb9.cell (World.block_lt_of_cell? _ _ hx)).trans hx
     have HS9 := And.intro (t9 _ _ HSY.1) (t9 _ _ HSY.2)
     refine ⟨_, rfl, fun _ => HS9, ?_⟩
     simp only [lxa, lxb, lxc]
     have t10 : ∀ p x, w9.cell? p = some x → (w9.alloc (.cells #[.slice au M cu] 29)).cell? p = some x := fun p x hx => ((Keep.refl (fun _ => False) w9).alloc _).cell hx (fun h => h)
     refine lx_one 7 (by kernel_rfl) (stepT_val (w' := w9.alloc (.cells #[.slice au M cu] 29)) (.slice (some ⟨w9.heap.size, 0, none⟩) 1 1) rfl rfl rfl ?r7 (fun _ => And.intro (t10 _ _ HS9.1) (t10 _ _ HS9.2)) ?_)
     case r7 => first | (go_simp; rfl) | go_simp
     simp only [lxa, lxb, lxc]
     have nv1 : ¬ vr.ownBlock = some bl := fun hv => (HB.out bl (hRcr.own bl hv)).1 rfl
     have nv2 : ¬ vr.ownBlock = some lb := fun hv => HL.out.hl (hRcr.own lb hv)
     have HS10 := And.intro (hk10.cell (p := ⟨bl, 0, none⟩) HS9.1 nv1) (hk10.cell (p := ⟨lb, 2, none⟩) HS9.2 nv2)
     obtain ⟨L, HLn⟩ : ∃ L, Hid ((l.recs ++ rs).length + 1 = L) := ⟨_, rfl⟩
     dsimp only at hrun hA9 hkE
     rw [HLn.out] at hrun hA9 hkE
     refine lx_one 8 (by kernel_rfl) (stepT_val (w' := w10) (.slice av L cv) rfl rfl rfl (exec_appW rfl rfl rfl hrun) (fun _ => HS10) ?_)
     simp only [lxa, lxb, lxc]
     refine lx_one 9 (by kernel_rfl) (stepT_val (w' := w10) (.pointer (some ⟨lb, 0, none⟩)) rfl rfl rfl ?r9d (fun _ => HS10) ?_)
     case r9d => first | (go_simp; rfl) | go_simp
     simp only [lxa, lxb, lxc]
     refine lx_one 10 (by kernel_rfl) (stepT_val (w' := w10) (.pointer (some ⟨lb, 2, none⟩)) rfl rfl rfl ?r10d (fun _ => HS10) ?_)
     case r10d => first | (go_simp; rfl) | go_simp
     simp only [lxa, lxb, lxc]
     have p10 := hL10.c2
     have z10 := hL10.fz 2
     refine lx_one 11 (by kernel_rfl) (stepT_store (w' := w10.setCell ⟨lb, 2, none⟩ (.slice av L cv)) rfl rfl rfl ?r11 (fun h => by cases h) ?_)
     case r11 => first | (go_simp; rfl) | go_simp
     refine lx_nil (by kernel_rfl) ?_
     clear p10 z10 HS10 HS9 HSY t9 t10 hrun hL10 hk10 ou hb9 hRcY hLDY hLY hrY r8 hb8d hLr hRcr
     generalize w10.setCell ⟨lb, 2, none⟩ (.slice av L cv) = V at *
     have nS1 : ¬ (F bl ∨ H1 bl ∨ bl = lb) := fun h9 => h9.elim nbl (fun h9 => h9.elim (fun h9 => (HB.out bl h9).1 rfl) nbl2)
     have nS2 : ¬ (F bn ∨ H1 bn ∨ bn = lb) := fun h9 => h9.elim nbn (fun h9 => h9.elim (fun h9 => (HB.out bn h9).2.1 rfl) nbn2)
     have nS3 : ¬ (F gr ∨ H1 gr ∨ gr = lb) := fun h9 => by
      have h8 := hrowX _ rfl
      dsimp only at h8
      rcases h9 with h9 | h9 | h9
      ·have := hF _ h9; omega
      ·exact (HB.out gr h9).2.2 _ rfl rfl
      ·omega
     have hV1 := box_keep hX1 hkE nS1
     have hV2 := box_keep hX2 hkE nS2
     have hVR : Rd V (some ⟨gr, 0, none⟩) N c6 xs := hRdY.keep hkE (fun ad had => by cases had; exact nS3)
     obtain ⟨vV, hLV, _⟩ := hA9.ex
     dsimp only at hLV
     have qV5 : V.cell? ⟨lb, 5, none⟩ = some (.int .i64 (sz : Int)) := hLV.c5
     have zV5 := hLV.fz 5
     have qVl := box_cell hV1
     have hblY : bl < Y.heap.size := (Array.getElem?_eq_some_iff.1 hX1).1
     have hbnY : bn < Y.heap.size := (Array.getElem?_eq_some_iff.1 hX2).1
     have hgrY : gr < Y.heap.size := hRdY.blk (by omega) rfl
     have hA10 := hA9.size (sz + (8 + M)) ((sz : Int) + (8 + (M : Int))) (by omega)
     have hkV : Keep (fun i => i = lb) V (V.setCell ⟨lb, 5, none⟩ (.int .i64 ((sz : Int) + (8 + (M : Int))))) := (Keep.refl (fun i => i = lb) V).setCell (p := ⟨lb, 5, none⟩) rfl _
     have hKall : Keep (fun i => F i ∨ H i ∨ i = lb) w V := hKY.andThen hkE (fun i hi hs => by
      rcases hs with hs | hs | hs
      ·exact Or.inl hs
      ·rcases HH.out i hs with h9 | h9
       ·exact Or.inr (Or.inl h9)
       ·omega
      ·exact Or.inr (Or.inr hs))
     have HE9 := HEq.out
     clear hLV hA9 HEq
     go_wp2
     go_roundg (N - (sz + (8 + M)))
     case measure => omega
     case rel =>
      refine ⟨sz + (8 + M), f2, rs ++ [r], R2, n2, H9, by omega, by omega, by simp; omega, ?_, hKall.trans (hkV.mono (fun i e => Or.inr (Or.inr e))), fun i hi => ?_, fun i hi => ?_, box_keep hV1 hkV nbl2, box_keep hV2 hkV nbn2, hVR.keep hkV (fun ad had e => by cases had; exact nS3 (Or.inr (Or.inr e))), HSQ.out, ?_, ?_⟩
      ·show LogAt _ F H9 lb d ⟨l.most, l.recs ++ (rs ++ [r]), { l.ch with size := sz + (8 + M) }, l.dn⟩ k
       rw [← List.append_assoc]
       exact hA10
      ·rcases hH9 i hi with h9 | h9
       ·exact HH.out i h9
       ·exact Or.inr (Nat.le_trans hsY h9)
      ·rcases hH9 i hi with h9 | h9
       ·exact HB.out i h9
       ·exact ⟨by omega, by omega, fun ad had e => by cases had; dsimp only at e; omega⟩
      ·rw [← HE9.1]; simp
      ·have := HE9.2; omega
   ·obtain rfl : sz = N := by omega
    have hz1 : ¬ (sz : Int) < (sz : Int) := by omega
    have hsc := HSc.out.symm.trans (scanF_nil f (xs.drop sz) (by rw [List.length_drop, HN.out]; omega))
    simp only [Prod.mk.injEq] at hsc
    obtain ⟨e1, e2, e3⟩ := hsc
    subst e1 e2
    have hE2 := HEq.out
    rw [List.append_nil, Nat.add_zero] at hE2
    obtain ⟨e4, e5⟩ := hE2
    have hfin := HRy.out e3
    rw [← e4, ← e5] at hfin
    simp only [Prod.mk.injEq] at hfin
    obtain ⟨g1, g2, g3, g4⟩ := hfin
    subst eR bR lR kR
    clear HRy HRn HSc HEq e3 e4 e5
    go_wp2
    go_ret
    exact ⟨Or.inl ⟨rfl, rfl⟩, F, H1, HL.out, HK.out, fun i hi => Or.inl hi, HH.out⟩
 ·have hres : readSegR l s k (en, xs) = (en, false, l, k) := by unfold readSegR; rw [if_pos h0]
  have hx := HR.out.symm.trans hres
  simp only [Prod.mk.injEq] at hx
  obtain ⟨e1, e2, e3, e4⟩ := hx
  subst eR bR lR kR
  have e0 : ((en : Int) == 0) = false := by rw [beq_eq_false_iff_ne]; omega
  go_wp2_with (first
   | (go_at_call 129; refine (sask_no en _).mono ?_; rintro e w5 ⟨rfl, h5⟩; replace h5 := h5.symm; subst h5))
  exact ⟨rfl, gsb_no h0 rfl, Lgp.from hbw3 (Lgp.refl h3)⟩
end Go.Proofs.YtikkieaokfailaaGreatDoor

namespace Go.Proofs.YtikkieaokfailaaGreatDoor
open Go.RowKit Go.Joins
theorem scanF_le : ∀ (f : Nat) (xs : List Int), (scanF f xs).1.length ≤ xs.length ∧ (scanF f xs).2.1 ≤ xs.length
 | 0, _ => ⟨Nat.zero_le _, Nat.zero_le _⟩
 | f + 1, xs => by
  by_cases h : xs.length = 0
  ·rw [scanF_nil _ _ h]; exact ⟨Nat.zero_le _, Nat.zero_le _⟩
  ·cases hr : recO xs with
   | none => rw [scanF_no h hr]; exact ⟨Nat.zero_le _, Nat.zero_le _⟩
   | some r =>
    rw [scanF_some h hr]
    obtain ⟨h1, _, _⟩ := recO_len hr
    obtain ⟨h2, h3⟩ := scanF_le f (xs.drop (8 + r.length))
    rw [List.length_drop] at h2 h3
    exact ⟨by simp; omega, by dsimp only; omega⟩
def segTot (g : Nat) (k : Dk) : Nat → Nat → Nat
 | 0, _ => 0
 | m + 1, i => (readK k (segN g (i + 1))).2.length + segTot g k m (i + 1)
def rdSegs : Nat → Nat → Lg → Dk → Nat × Lg × Dk
 | 0, _, l, k => (0, l, k)
 | m + 1, i, l, k =>
  if (readSegL l (i + 1) k).1 ≠ 0 then ((readSegL l (i + 1) k).1, (readSegL l (i + 1) k).2.2.1, (readSegL l (i + 1) k).2.2.2)
  else if (readSegL l (i + 1) k).2.1 then rdSegs m (i + 1) (readSegL l (i + 1) k).2.2.1 (readSegL l (i + 1) k).2.2.2
  else rdEnd i (readSegL l (i + 1) k).2.2.1 (readSegL l (i + 1) k).2.2.2
 where
 rdEnd (i : Nat) (l : Lg) (k : Dk) : Nat × Lg × Dk :=
  ((remAll (segs l.ch.g (i + 1) (l.ch.cnt - (i + 1))) l.dn k).1, ⟨l.most, l.recs, (if (remAll (segs l.ch.g (i + 1) (l.ch.cnt - (i + 1))) l.dn k).1 = 0 then { l.ch with cnt := i + 1 } else l.ch), (remAll (segs l.ch.g (i + 1) (l.ch.cnt - (i + 1))) l.dn k).2.1⟩, (remAll (segs l.ch.g (i + 1) (l.ch.cnt - (i + 1))) l.dn k).2.2)
theorem cut_gr (k : Dk) (s : Nm) (z : Int) : (cutK k s z).2.steps ≤ k.steps + 1 ∧ (cutK k s z).2.fs.length ≤ k.fs.length + 1 := by
 unfold cutK stepK
 have h1 := pass_steps k
 have h2 := pass_fs k
 split
 ·exact ⟨Nat.le_succ _, Nat.le_succ _⟩
 ·split
  ·exact ⟨Nat.le_succ _, Nat.le_succ _⟩
  ·split
   ·exact ⟨Nat.le_succ _, Nat.le_succ _⟩
   ·split
    ·exact ⟨Nat.le_succ _, Nat.le_succ _⟩
    ·split
     ·exact ⟨h1, by rw [h2]; exact Nat.le_succ _⟩
     ·refine ⟨h1, ?_⟩
      show (putL _ _ _).length ≤ _
      rw [← h2]
      exact len_put _ _ _
theorem readSeg_same (l : Lg) (i : Nat) (k : Dk) : (readSegL l i k).2.2.1.most = l.most ∧ (readSegL l i k).2.2.1.ch.g = l.ch.g ∧ (readSegL l i k).2.2.1.ch.cnt = l.ch.cnt ∧ (readSegL l i k).2.2.2.steps ≤ k.steps + 1 ∧ (readSegL l i k).2.2.2.fs.length ≤ k.fs.length + 1 ∧ (readSegL l i k).2.2.1.recs.length ≤ l.recs.length + (readK k (segN l.ch.g i)).2.length ∧ (l.ch.size ≤ 1000000000 → (readK k (segN l.ch.g i)).2.length ≤ 1000000000 → (readSegL l i k).2.2.1.ch.size ≤ 1000000000) ∧ ((readSegL l i k).1 = 0 → (readSegL l i k).2.1 = true → (readSegL l i k).2.2.2 = k) := by
 unfold readSegL readSegR
 obtain ⟨P, HP⟩ : ∃ P, readK k (segN l.ch.g i) = P := ⟨_, rfl⟩
 rw [HP]
 obtain ⟨h1, h2⟩ := scanF_le P.2.length P.2
 split
 ·exact ⟨rfl, rfl, rfl, Nat.le_succ _, Nat.le_succ _, Nat.le_add_right _ _, fun h _ => h, fun _ h => by cases h⟩
 ·split
  ·exact ⟨rfl, rfl, rfl, Nat.le_succ _, Nat.le_succ _, by simp; exact h1, fun _ h => Nat.le_trans h2 h, fun _ _ => rfl⟩
  ·exact ⟨rfl, rfl, rfl, stp_gr _ _ _ (cut_gr _ _ _).1, stp_fl _ _ _ (cut_gr _ _ _).2, by simp; exact h1, fun _ h => Nat.le_trans h2 h, fun _ h => by cases h⟩
set_option maxHeartbeats 4000000 in
set_option maxRecDepth 100000 in
theorem readSegs_any (w : World) (F H : Nat → Prop) (lb d : Nat) (l : Lg) (k : Dk) (h : LogAt w F H lb d l k) (ok : l.Ok) (hc : l.ch.cnt ≤ 2500) (hz : l.ch.size ≤ 1000000000) (hst : k.steps < 900000) (hfl : k.fs.length ≤ 5000) (htot : l.recs.length + segTot l.ch.g k l.ch.cnt 0 ≤ 900000) :
  Calls Tryz.prog 100 #[.pointer (some ⟨lb, 0, none⟩)] w fun e w' => Gs (rdSegs l.ch.cnt 0 l k).1 e ∧ Lgp w F H lb d (rdSegs l.ch.cnt 0 l k).2.1 (rdSegs l.ch.cnt 0 l k).2.2 w' := by
 obtain ⟨v, hLD, hRc⟩ := h.ex
 have q4 := hLD.c4
 have hg := ok.g
 have hmo := ok.most
 obtain ⟨N, HN⟩ : ∃ N, Hid (l.ch.cnt = N) := ⟨_, rfl⟩
 obtain ⟨R, HR⟩ : ∃ R, Hid (rdSegs l.ch.cnt 0 l k = R) := ⟨_, rfl⟩
 rw [HR.out]
 obtain ⟨eR, lR, kR⟩ := R
 dsimp only
 have HQ0 : Hid (rdSegs N 0 l k = (eR, lR, kR)) := by
  have h9 := HR.out
  rw [HN.out] at h9
  exact h9
 rw [HN.out] at q4 hc htot
 clear HR
 go_enter Tryz.func100, Tryz.ntmps100
 go_upto_region 1 with fail
 go_loopw [2, 8] (fun _ s8 wr => ∃ (i : Nat) (F1 H1 : Nat → Prop) (l1 : Lg), s8 = .int .i64 i ∧ i ≤ N ∧ Hid (LogAt wr F1 H1 lb d l1 k) ∧ Hid (Keep (fun i => F i ∨ H i ∨ i = lb) w wr) ∧ Hid (∀ i, F1 i → F i ∨ w.heap.size ≤ i) ∧ Hid (∀ i, H1 i → H i ∨ w.heap.size ≤ i) ∧ Hid (l1.ch.g = l.ch.g ∧ l1.ch.cnt = N ∧ l1.most = l.most ∧ l1.ch.size ≤ 1000000000) ∧ Hid (l1.recs.length + segTot l.ch.g k (N - i) i ≤ 900000) ∧ Hid (rdSegs (N - i) i l1 k = (eR, lR, kR))) (fun _ s8 _ => N - (intOf s8).toNat)
 case atStart => exact ⟨0, F, H, l, rfl, by omega, h, Keep.refl _ _, fun i hi => Or.inl hi, fun i hi => Or.inl hi, ⟨rfl, HN.out, rfl, hz⟩, htot, HQ0.out⟩
 case round =>
  clear q4 HQ0 htot hLD hRc
  obtain ⟨i, F1, H1, l1, rfl, hiN, HL, HK, HF, HH, HS, HT, HQ⟩ := hrel
  by_cases hlt : i < N
  ·have hz1 : (i : Int) < (N : Int) := by omega
   have hNi : N - i = (N - (i + 1)) + 1 := by omega
   obtain ⟨m, Hm⟩ : ∃ m, Hid (N - (i + 1) = m) := ⟨_, rfl⟩
   have hT := HT.out
   rw [hNi, Hm.out] at hT
   have hT2 : l1.recs.length + ((readK k (segN l.ch.g (i + 1))).2.length + segTot l.ch.g k m (i + 1)) ≤ 900000 := hT
   have hS := HS.out
   have ok1 : l1.Ok := ⟨by rw [hS.1]; exact hg, by rw [hS.2.1]; omega, by have := hS.2.2.2; omega, by rw [hS.2.2.1]; exact hmo, by omega⟩
   have hrl : l1.recs.length + (readK k (segN l1.ch.g (i + 1))).2.length ≤ 900000 := by rw [hS.1]; omega
   have hrs := readSeg_any wr F1 H1 lb d l1 k (i + 1) HL.out ok1 (by omega) (by omega) (by omega) hrl
   have hsm := readSeg_same l1 (i + 1) k
   have hQ := HQ.out
   rw [hNi, Hm.out] at hQ
   unfold rdSegs at hQ
   rw [hS.1] at hsm
   obtain ⟨Q, HQ9⟩ : ∃ Q, Hid (readSegL l1 (i + 1) k = Q) := ⟨_, rfl⟩
   rw [HQ9.out] at hrs hsm hQ
   obtain ⟨en, bb, l2, k2⟩ := Q
   dsimp only at hrs hsm hQ
   obtain ⟨s1, s2, s3, s4, s5, s6, s7, s8⟩ := hsm
   have hi1 : ((i + 1 : Nat) : Int) = (i : Int) + 1 := by omega
   rw [hi1] at hrs
   have Hall : Hid (l2.ch.g = l.ch.g ∧ l2.ch.cnt = N ∧ l2.most = l.most ∧ l2.ch.size ≤ 1000000000) := ⟨by rw [s2], by rw [s3]; exact hS.2.1, by rw [s1]; exact hS.2.2.1, s7 hS.2.2.2 (by omega)⟩
   have HT2 : Hid (l2.recs.length + segTot l.ch.g k m (i + 1) ≤ 900000) := by show _ ≤ _; omega
   have hk2s : k2.steps ≤ 900001 := by omega
   clear HQ HT hT hT2 hrl hS HS s1 s2 s3 s6 s7
   by_cases h0 : en = 0
   ·subst h0
    rw [if_neg (by simp)] at hQ
    cases bb with
    | true =>
     rw [if_pos rfl] at hQ
     have hkk := s8 rfl rfl
     subst hkk
     have HQn : Hid (rdSegs m (i + 1) l2 k2 = (eR, lR, kR)) := hQ
     clear hQ s4 s5 s8
     go_wp2_with (first
      | (go_at_call 135; refine (hrs.mono (fun e w' h => And.intro (h.1.elim (fun k => k.2) (fun k => absurd rfl k.1)) h.2 : ∀ e w', _ → (e = .returned (.bool true) ∧ _))).mono ?_; rintro e w6 ⟨rfl, F2, H2, hL2, hk2, hF2, hH2⟩))
     have hsw := HK.out.size
     refine ⟨⟨i + 1, F2, H2, l2, by go_num, by omega, hL2, HK.out.andThen hk2 (fun q hq hs => ?_), fun q hq => (hF2 q hq).elim (HF.out q) (fun h9 => Or.inr (Nat.le_trans hsw h9)), fun q hq => (hH2 q hq).elim (HH.out q) (fun h9 => Or.inr (Nat.le_trans hsw h9)), Hall.out, ?_, ?_⟩, by simp [intOf]; omega⟩
     ·rcases hs with hs | hs | hs
      ·rcases HF.out q hs with h9 | h9
       ·exact Or.inl h9
       ·omega
      ·rcases HH.out q hs with h9 | h9
       ·exact Or.inr (Or.inl h9)
       ·omega
      ·exact Or.inr (Or.inr hs)
     ·show _ + segTot l.ch.g k2 (N - (i + 1)) (i + 1) ≤ 900000
      rw [Hm.out]; exact HT2.out
     ·show rdSegs (N - (i + 1)) (i + 1) l2 k2 = _
      rw [Hm.out]; exact HQn.out
    | false =>
     rw [if_neg (by simp)] at hQ
     have HQn : Hid (rdSegs.rdEnd i l2 k2 = (eR, lR, kR)) := hQ
     clear hQ s8
     have hAl := Hall.out
     have hpu := fun F9 w9 v9 (h9 : LD w9 F9 lb d l2.most v9 l2.ch l2.dn k2) hP9 => remSegs_any w9 F9 lb d l2.most v9 l2.ch l2.dn k2 l2.ch (i + 1) h9 hP9 (by rw [hAl.1]; exact hg) (by rw [hAl.2.1]; omega) (by rw [hAl.2.1]; omega)
     unfold rdSegs.rdEnd at HQn
     obtain ⟨P, HP9⟩ : ∃ P, Hid (remAll (segs l2.ch.g (i + 1) (l2.ch.cnt - (i + 1))) l2.dn k2 = P) := ⟨_, rfl⟩
     simp only [HP9.out] at hpu
     have hQ9 := HQn.out
     rw [HP9.out] at hQ9
     obtain ⟨e9, dn9, k9⟩ := P
     dsimp only at hpu hQ9
     simp only [Prod.mk.injEq] at hQ9
     have HG : Hid (e9 = eR ∧ (⟨l2.most, l2.recs, (if e9 = 0 then { l2.ch with cnt := i + 1 } else l2.ch), dn9⟩ : Lg) = lR ∧ k9 = kR) := hQ9
     clear hQ9
     have hi2 : ((i + 1 + 1 : Nat) : Int) = (i : Int) + 2 := by omega
     have hch : chs l2.ch = #[.int .u64 (l2.ch.g : Int), .int .i64 (l2.ch.cnt : Int), .int .i64 (l2.ch.size : Int), .bool l2.ch.loose] := rfl
     rw [hi2, hch] at hpu
     clear HQn hAl
     go_upto_region 4 with (first
      | (go_at_call 135; refine (hrs.mono (fun e w' h => And.intro (h.1.elim (fun k => k.2) (fun k => absurd rfl k.1)) h.2 : ∀ e w', _ → (e = .returned (.bool false) ∧ _))).mono ?_; rintro e w6 ⟨rfl, F2, H2, hL2, hk2, hF2, hH2⟩))
     obtain ⟨v6, hLD6, hRc6⟩ := hL2.ex
     have y3 := hLD6.c3
     have y4 := hLD6.c4
     have y5 := hLD6.c5
     have y6 := hLD6.c6
     have hrem := hpu F2 w6 v6 hLD6 hL2.pf
     have hdone : ∀ w7, Lp w6 F2 lb d l2.most v6 l2.ch dn9 k9 w7 → Lgp w F H lb d ⟨l2.most, l2.recs, l2.ch, dn9⟩ k9 w7 := fun w7 hp =>
      Lgp.next HK.out HF.out HH.out (Lgp.next hk2 hF2 hH2 (LogAt.stepd hL2 hRc6 hp))
     by_cases h0 : e9 = 0
     ·subst h0
      obtain ⟨g1, g2, g3⟩ := HG.out
      rw [if_pos rfl] at g2
      subst eR lR kR
      clear HG
      go_upto_region 5 with (first
       | (go_at_call 112; refine (hrem.mono (fun e w' h => And.intro (h.1.elim (fun k => k.2) (fun k => absurd rfl k.1)) h.2 : ∀ e w', _ → (e = .returned (.tuple #[]) ∧ _))).mono ?_; rintro e w7 ⟨rfl, hp⟩))
      obtain ⟨F7, H7, hA7, hk7, hF7, hH7⟩ := hdone w7 hp
      obtain ⟨v7, hL7, hR7⟩ := hA7.ex
      dsimp only at hL7 hR7
      have x4 := hL7.c4
      have z4 := hL7.fz 4
      have hkS : Keep (fun i => i = lb) w7 (w7.setCell ⟨lb, 4, none⟩ (.int .i64 ((i : Int) + 1))) := (Keep.refl (fun i => i = lb) w7).setCell (p := ⟨lb, 4, none⟩) rfl _
      have hL8 : LD (w7.setCell ⟨lb, 4, none⟩ (.int .i64 ((i : Int) + 1))) F7 lb d l2.most v7 { l2.ch with cnt := i + 1 } dn9 k9 := hL7.set 4 _ rfl
      have hR8 := hR7.keep (H' := H7) hkS (fun j hj e => hA7.hl (by rw [← e]; exact hj)) (fun _ h => h)
      go_wp2
      refine bodyPost_ret (results_none Tryz.results100 _ _ _) rfl ?_
      exact ⟨Or.inl ⟨rfl, rfl⟩, F7, H7, ⟨⟨v7, hL8, hR8⟩, hA7.hf, hA7.hl, fun j hj => Nat.lt_of_lt_of_le (hA7.lt j hj) hkS.size, ⟨hA7.pf.pw.keep hkS (by have := hA7.pf.ll; omega), hA7.pf.fl, hA7.pf.ll⟩, hA7.ph⟩, hk7.trans (hkS.mono (fun j e => Or.inr (Or.inr e))), hF7, hH7⟩
     ·obtain ⟨g1, g2, g3⟩ := HG.out
      rw [if_neg h0] at g2
      subst eR lR kR
      clear HG
      go_wp2_with (first
       | (go_at_call 112; refine (hrem.mono (fun e w' h => And.intro (h.1.elim (fun k => absurd k.1 h0) (fun k => k.2)) h.2 : ∀ e w', _ → (e = .panicked (gaveS e9) ∧ _))).mono ?_; rintro e w7 ⟨rfl, hp⟩))
      exact ⟨rfl, gs_no h0 rfl, hdone w7 hp⟩
   ·rw [if_pos h0] at hQ
    simp only [Prod.mk.injEq] at hQ
    obtain ⟨e1, e2, e3⟩ := hQ
    subst eR lR kR
    go_wp2_with (first
     | (go_at_call 135; refine (hrs.mono (fun e w' h => And.intro (h.1.elim (fun k => absurd k.1 h0) (fun k => k.2)) h.2 : ∀ e w', _ → (e = .panicked (gaveS en) ∧ _))).mono ?_; rintro e w6 ⟨rfl, hp⟩))
    exact ⟨rfl, gs_no h0 rfl, Lgp.next HK.out HF.out HH.out hp⟩
  ·obtain rfl : i = N := by omega
   have hz1 : ¬ (i : Int) < (i : Int) := by omega
   have hQ := HQ.out
   rw [Nat.sub_self] at hQ
   have hQ2 : (0, l1, k) = (eR, lR, kR) := hQ
   simp only [Prod.mk.injEq] at hQ2
   obtain ⟨e1, e2, e3⟩ := hQ2
   subst eR lR kR
   clear hQ HQ
   go_wp2
   go_end0
   exact ⟨Or.inl ⟨rfl, rfl⟩, F1, H1, HL.out, HK.out, HF.out, HH.out⟩
end Go.Proofs.YtikkieaokfailaaGreatDoor
namespace Go.Proofs.YtikkieaokfailaaGreatDoor
open Go.RowKit Go.Joins
theorem cntF_le (ns : List Nm) (g : Nat) : ∀ f i, cntF ns g f i ≤ i + f
 | 0, i => Nat.le_refl _
 | f + 1, i => by
  unfold cntF
  split
  ·have := cntF_le ns g f (i + 1); omega
  ·omega
theorem cntN_le (ns : List Nm) (g : Nat) : cntN ns g ≤ ns.length := by have := cntF_le ns g ns.length 0; unfold cntN; omega
theorem list_len (k : Dk) : (listK k).2.length ≤ k.fs.length := by
 unfold listK
 split
 ·exact Nat.zero_le _
 ·rw [List.length_map]; exact Nat.le_refl _
theorem used_drop_le (l : Fls) (s : Nm) : used (dropL l s) ≤ used l := by
 induction l with
 | nil => exact Nat.le_refl _
 | cons p r ih =>
  obtain ⟨n, f⟩ := p
  unfold dropL
  split
  ·simp only [used]; omega
  ·simp only [used]; omega
theorem remove_used (k : Dk) (s : Nm) : used (removeK k s).2.fs ≤ used k.fs := by
 unfold removeK stepK
 have h2 := pass_fs k
 split
 ·exact Nat.le_refl _
 ·split
  ·exact Nat.le_refl _
  ·split
   ·exact Nat.le_refl _
   ·split
    ·exact Nat.le_refl _
    ·split
     ·rw [h2]; exact Nat.le_refl _
     ·show used (dropL _ _) ≤ _
      rw [h2]
      exact used_drop_le _ _
theorem remAll_used : ∀ (l : List Nm) (dn : Bool) (k : Dk), used (remAll l dn k).2.2.fs ≤ used k.fs
 | [], _, _ => Nat.le_refl _
 | s :: r, dn, k => by
  have h1 : used (stp dn k (removeK k s)).2.2.fs ≤ used k.fs := by
   unfold stp
   cases dn
   ·exact remove_used k s
   ·exact Nat.le_refl _
  unfold remAll
  split
  ·exact h1
  ·exact Nat.le_trans (remAll_used r _ _) h1
theorem sum_used : ∀ (L : List Nm) (l : Fls), Rise l → L.Nodup → (L.map fun s => lenO (look l s)).sum ≤ used l
 | [], _, _, _ => Nat.zero_le _
 | s :: r, l, hr, hn => by
  have hn' := List.pairwise_cons.1 hn
  have h1 := used_drop l hr s
  have h2 := sum_used r (dropL l s) (rise_drop hr s) hn'.2
  have h3 : (r.map fun t => lenO (look l t)) = r.map fun t => lenO (look (dropL l s) t) := by
   apply List.map_congr_left
   intro t ht
   rw [look_drop, if_neg (fun e => hn'.1 t ht e.symm)]
  simp only [List.map_cons, List.sum_cons]
  rw [h3]
  omega
theorem read_lenO (k : Dk) (s : Nm) : (readK k s).2.length ≤ lenO (look k.fs s) := by
 rcases readK_cases' k s with ⟨f, hl, e⟩ | e
 ·rw [e, hl]; exact Nat.le_refl _
 ·rw [e]; exact Nat.zero_le _
theorem segTot_sum (g : Nat) (k : Dk) : ∀ m i, segTot g k m i ≤ ((segs g i m).map fun s => lenO (look k.fs s)).sum
 | 0, _ => Nat.zero_le _
 | m + 1, i => by
  rw [segs_cons]
  simp only [List.map_cons, List.sum_cons]
  have h1 := read_lenO k (segN g (i + 1))
  have h2 := segTot_sum g k m (i + 1)
  show (readK k (segN g (i + 1))).2.length + segTot g k m (i + 1) ≤ _
  omega
theorem segTot_used (g : Nat) (k : Dk) (hr : Rise k.fs) (m i : Nat) : segTot g k m i ≤ used k.fs := Nat.le_trans (segTot_sum g k m i) (sum_used _ _ hr (segs_nodup g i m))
theorem rd_gr : ∀ (m i : Nat) (l : Lg) (k : Dk), (rdSegs m i l k).2.1.ch.g = l.ch.g ∧ (rdSegs m i l k).2.1.most = l.most ∧ (rdSegs m i l k).2.1.ch.cnt ≤ max l.ch.cnt (i + m) ∧ (rdSegs m i l k).2.2.steps ≤ k.steps + m + l.ch.cnt ∧ (rdSegs m i l k).2.2.fs.length ≤ k.fs.length + m
 | 0, i, l, k => ⟨rfl, rfl, Nat.le_max_left _ _, Nat.le_add_right _ _, Nat.le_refl _⟩
 | m + 1, i, l, k => by
  obtain ⟨s1, s2, s3, s4, s5, _⟩ := readSeg_same l (i + 1) k
  unfold rdSegs
  split
  ·exact ⟨s2, s1, by rw [s3]; exact Nat.le_max_left _ _, by dsimp only; omega, by dsimp only; omega⟩
  ·split
   ·obtain ⟨h1, h2, h3, h4, h5⟩ := rd_gr m (i + 1) (readSegL l (i + 1) k).2.2.1 (readSegL l (i + 1) k).2.2.2
    rw [s2] at h1
    rw [s1] at h2
    rw [s3] at h3 h4
    exact ⟨h1, h2, by omega, by omega, by omega⟩
   ·unfold rdSegs.rdEnd
    obtain ⟨h1, h2⟩ := remAll_gr (segs (readSegL l (i + 1) k).2.2.1.ch.g (i + 1) ((readSegL l (i + 1) k).2.2.1.ch.cnt - (i + 1))) (readSegL l (i + 1) k).2.2.1.dn (readSegL l (i + 1) k).2.2.2
    rw [segs_len] at h1
    refine ⟨?_, s1, ?_, ?_, ?_⟩
    ·dsimp only; split <;> exact s2
    ·dsimp only; split
     ·dsimp only; omega
     ·rw [s3]; exact Nat.le_max_left _ _
    ·dsimp only; omega
    ·dsimp only; omega
def ch0 : Ch := ⟨0, 0, 0, false⟩
def lg0 (most : Nat) : Lg := ⟨most, [], ch0, false⟩
def openR (most : Nat) (b : Nat × Nat) (k : Dk) : Nat × Lg × Dk :=
 if b.1 ≠ 0 then (b.1, lg0 most, k) else openC most (cleanL ⟨b.2, 0, 0, false⟩ false k)
 where
 openC (most : Nat) (q : Nat × Ch × Bool × Dk) : Nat × Lg × Dk :=
  if q.1 ≠ 0 then (q.1, ⟨most, [], q.2.1, q.2.2.1⟩, q.2.2.2) else openD (rdSegs q.2.1.cnt 0 ⟨most, [], q.2.1, q.2.2.1⟩ q.2.2.2)
 openD (r : Nat × Lg × Dk) : Nat × Lg × Dk :=
  if r.1 ≠ 0 then r else commitL ⟨r.2.1.most, r.2.1.recs, { r.2.1.ch with loose := decide (0 < r.2.1.ch.cnt) }, r.2.1.dn⟩ r.2.2
def openL (most : Nat) (k : Dk) : Nat × Lg × Dk := openR most (baseR (readK k sBase)) k
theorem baseR_lt (r : Nat × List Int) (hb : Bd r.2) : (baseR r).2 < 18446744073709551616 := by
 have h0 : (0 : Nat) < 18446744073709551616 := by decide
 have h1 : (1 : Nat) < 18446744073709551616 := by decide
 unfold baseR
 split
 ·exact h1
 ·split
  ·exact h0
  ·split
   ·exact h0
   ·split
    ·exact numL_lt8 (hb.take 8) (by rw [List.length_take]; omega)
    ·exact h0
theorem LogAt.stepc {w w' : World} {F H : Nat → Prop} {lb d : Nat} {l : Lg} {k k' : Dk} {v : Value} {c' : Ch} {dn' : Bool} (h : LogAt w F H lb d l k) (hRc : RcA w H v l.recs) (hp : Lp w F lb d l.most v c' dn' k' w') : Lgp w F H lb d ⟨l.most, l.recs, c', dn'⟩ k' w' := by
 obtain ⟨F', h1, h2, h3⟩ := hp
 refine ⟨F', H, ⟨⟨v, h1, hRc.keep h2 (fun i hi hs => hs.elim (h.hf i hi) (fun e => h.hl (by rw [← e]; exact hi))) (fun _ h => h)⟩, fun i hi hf => ?_, h.hl, fun i hi => Nat.lt_of_lt_of_le (h.lt i hi) h2.size, h.pf.next h2 h3, h.ph⟩, h2.mono (fun i hi => hi.elim Or.inl (fun h => Or.inr (Or.inr h))), h3, fun i hi => Or.inl hi⟩
 rcases h3 i hf with h4 | h4
 ·exact h.hf i hi h4
 ·have := h.lt i hi; omega
theorem Lcp.own {w w' : World} {F : Nat → Prop} {lb d most : Nat} {v : Value} {dn : Bool} {k : Dk} {off : Nat} {c0 c : Ch} (hp : Lcp w F lb d most v dn k lb off c0 c w') : Lp w F lb d most v c dn k w' := by
 obtain ⟨F', h1, h2, h3⟩ := hp
 have hL := h1.L
 rw [if_pos rfl] at hL
 exact ⟨F', hL, h2.mono (fun i hi => hi.elim Or.inl (fun h => Or.inr (h.elim id id))), h3⟩
theorem LogAt.put {w : World} {F H : Nat → Prop} {lb d : Nat} {l : Lg} {k : Dk} {v : Value} (h : LogAt w F H lb d l k) (hLD : LD w F lb d l.most v l.ch l.dn k) (hRc : RcA w H v l.recs) (j : Nat) (u : Value) {c' : Ch} (e : (lcs d l.most v l.ch l.dn).setIfInBounds j u = lcs d l.most v c' l.dn) : LogAt (w.setCell ⟨lb, j, none⟩ u) F H lb d ⟨l.most, l.recs, c', l.dn⟩ k ∧ LD (w.setCell ⟨lb, j, none⟩ u) F lb d l.most v c' l.dn k ∧ RcA (w.setCell ⟨lb, j, none⟩ u) H v l.recs ∧ Keep (fun i => F i ∨ H i ∨ i = lb) w (w.setCell ⟨lb, j, none⟩ u) := by
 have hkS : Keep (fun i => i = lb) w (w.setCell ⟨lb, j, none⟩ u) := (Keep.refl (fun i => i = lb) w).setCell (p := ⟨lb, j, none⟩) rfl _
 have h1 := hLD.set j u e
 have h2 := hRc.keep (H' := H) hkS (fun i hi e => h.hl (by rw [← e]; exact hi)) (fun _ h => h)
 exact ⟨⟨⟨v, h1, h2⟩, h.hf, h.hl, fun i hi => Nat.lt_of_lt_of_le (h.lt i hi) hkS.size, ⟨h.pf.pw.keep hkS (by have := h.pf.ll; omega), h.pf.fl, h.pf.ll⟩, h.ph⟩, h1, h2, hkS.mono (fun i e => Or.inr (Or.inr e))⟩
set_option maxHeartbeats 4000000 in
set_option maxRecDepth 100000 in
theorem open_any (w : World) (F : Nat → Prop) (lb d most : Nat) (k : Dk) (hmo : most ≤ 1000000000000) (h : LogAt w F (fun _ => False) lb d (lg0 most) k) (hfl : k.fs.length ≤ 2500) (hst : k.steps < 800000) (hu : used k.fs ≤ 900000) :
  Calls Tryz.prog 61 #[.pointer (some ⟨lb, 0, none⟩)] w fun e w' => Gs (openL most k).1 e ∧ Lgp w F (fun _ => False) lb d (openL most k).2.1 (openL most k).2.2 w' := by
 obtain ⟨v, hLD, hRc⟩ := h.ex
 have hba := base_any w F lb d most v ch0 false k hLD
 have hbd : Bd (readK k sBase).2 := by
  rcases readK_cases' k sBase with ⟨f, hl, e⟩ | e
  ·rw [e]; dsimp only; exact (look_good hLD.D.good hl).2.2
  ·rw [e]; exact Bd.nil
 have hblt := baseR_lt _ hbd
 unfold openL
 obtain ⟨B, HB⟩ : ∃ B, Hid (baseR (readK k sBase) = B) := ⟨_, rfl⟩
 rw [HB.out] at hba hblt ⊢
 obtain ⟨eb, g⟩ := B
 dsimp only at hblt
 obtain ⟨R, HR⟩ : ∃ R, Hid (openR most (eb, g) k = R) := ⟨_, rfl⟩
 rw [HR.out]
 obtain ⟨eR, lR, kR⟩ := R
 dsimp only
 by_cases h0 : eb = 0
 ·subst h0
  have hba' := hba.mono (fun e w' h => And.intro (h.1.elim (fun k => k.2) (fun k => absurd rfl k.1)) h.2 : ∀ e w', _ → (e = .returned (.int .u64 (g : Int)) ∧ _))
  clear hba
  have HR2 : Hid (openR.openC most (cleanL ⟨g, 0, 0, false⟩ false k) = (eR, lR, kR)) := by
   have h9 := HR.out
   unfold openR at h9
   rw [if_neg (by simp)] at h9
   exact h9
  clear HR
  have hcl := fun w' F' (h' : LD w' F' lb d most v ⟨g, 0, 0, false⟩ false k) hP' => clean_any w' F' lb d most v ⟨g, 0, 0, false⟩ false k h' hP' hblt hfl (by omega)
  have hccl : (cleanL ⟨g, 0, 0, false⟩ false k).2.1.g = g ∧ (cleanL ⟨g, 0, 0, false⟩ false k).2.1.cnt ≤ 2500 ∧ (cleanL ⟨g, 0, 0, false⟩ false k).2.1.size = 0 ∧ (cleanL ⟨g, 0, 0, false⟩ false k).2.2.2.steps ≤ k.steps + 2500 ∧ (cleanL ⟨g, 0, 0, false⟩ false k).2.2.2.fs.length ≤ k.fs.length ∧ used (cleanL ⟨g, 0, 0, false⟩ false k).2.2.2.fs ≤ used k.fs := by
   unfold cleanL
   split
   ·exact ⟨rfl, Nat.zero_le _, rfl, Nat.le_add_right _ _, Nat.le_refl _, Nat.le_refl _⟩
   ·dsimp only
    have h1 := cntN_le (listK k).2 g
    have h2 := list_len k
    obtain ⟨h3, h4⟩ := remAll_gr ((listK k).2.filter (left g (cntN (listK k).2 g))) false k
    have h5 := List.length_filter_le (left g (cntN (listK k).2 g)) (listK k).2
    exact ⟨rfl, by omega, rfl, by omega, h4, remAll_used _ _ _⟩
  obtain ⟨Q, HQ⟩ : ∃ Q, Hid (cleanL ⟨g, 0, 0, false⟩ false k = Q) := ⟨_, rfl⟩
  simp only [HQ.out] at hcl
  rw [HQ.out] at hccl HR2
  obtain ⟨eq, cq, dnq, kq⟩ := Q
  dsimp only at hcl hccl
  obtain ⟨c1, c2, c3, c4, c5, c6⟩ := hccl
  have q3 : w.cell? ⟨lb, 3, none⟩ = some (.int .u64 0) := hLD.c3
  have z3 := hLD.fz 3
  go_enter Tryz.func61, Tryz.ntmps61
  go_upto_region 1 with (first
   | (go_at_call 98; refine hba'.mono ?_; rintro e w1 ⟨rfl, hb1⟩; have q31 := (hLD.below hb1).c3; have z31 := (hLD.below hb1).fz 3))
  obtain ⟨hA2, hL2, hR2, hk2⟩ := (h.below hb1).put (hLD.below hb1) (hRc.keep (S := fun _ => False) (H' := fun _ => False) (Keep.ofBelow hb1) (fun _ _ h => h) (fun _ h => h)) 3 (.int .u64 (g : Int)) (c' := ⟨g, 0, 0, false⟩) rfl
  have kp2 := (Keep.ofBelow (S := fun i => F i ∨ False ∨ i = lb) hb1).trans hk2
  have hcl2 := hcl _ F hL2 hA2.pf
  clear q3 z3 q31 z31 hcl hLD hRc hba'
  generalize w1.setCell ⟨lb, 3, none⟩ (.int .u64 (g : Int)) = w2 at *
  by_cases hq0 : eq = 0
  ·subst hq0
   have HR3 : Hid (openR.openD (rdSegs cq.cnt 0 ⟨most, [], cq, dnq⟩ kq) = (eR, lR, kR)) := by
    have h9 := HR2.out
    unfold openR.openC at h9
    rw [if_neg (by simp)] at h9
    exact h9
   clear HR2
   go_upto_region 2 with (first
    | (go_at_call 99; refine (hcl2.mono (fun e w' h => And.intro (h.1.elim (fun k => k.2) (fun k => absurd rfl k.1)) h.2 : ∀ e w', _ → (e = .returned (.tuple #[]) ∧ _))).mono ?_; rintro e w3 ⟨rfl, hp3⟩))
   obtain ⟨F3, H3, hA3, hk3, hF3, hH3⟩ := hA2.stepc hR2 hp3
   obtain ⟨v3, hL3, hR3⟩ := hA3.ex
   have hgood := hL3.D.good
   have hto : (⟨most, [], cq, dnq⟩ : Lg).recs.length + segTot cq.g kq cq.cnt 0 ≤ 900000 := by
    have := segTot_used cq.g kq hgood.rise cq.cnt 0
    show 0 + _ ≤ _
    omega
   have hrs := readSegs_any w3 F3 H3 lb d ⟨most, [], cq, dnq⟩ kq hA3 ⟨by show cq.g < _; rw [c1]; exact hblt, by show cq.cnt ≤ _; omega, by show cq.size ≤ _; omega, hmo, Nat.zero_le _⟩ c2 (by dsimp only; omega) (by omega) (by omega) hto
   have hgr := rd_gr cq.cnt 0 ⟨most, [], cq, dnq⟩ kq
   have kp3 : Keep (fun i => F i ∨ False ∨ i = lb) w w3 := kp2.trans hk3
   have hsw2 := kp2.size
   have hF30 : ∀ i, F3 i → F i ∨ w.heap.size ≤ i := fun i hi => (hF3 i hi).imp id (fun h9 => Nat.le_trans hsw2 h9)
   have hH30 : ∀ i, H3 i → False ∨ w.heap.size ≤ i := fun i hi => (hH3 i hi).imp id (fun h9 => Nat.le_trans hsw2 h9)
   dsimp only at hrs hgr
   obtain ⟨P, HP⟩ : ∃ P, Hid (rdSegs cq.cnt 0 ⟨most, [], cq, dnq⟩ kq = P) := ⟨_, rfl⟩
   rw [HP.out] at hrs hgr HR3
   obtain ⟨er, lr, kr⟩ := P
   dsimp only at hrs hgr
   obtain ⟨g1, g2, g3, g4, g5⟩ := hgr
   clear hcl2 hA2 hL2 hR2 hk2 kp2 hp3 hk3 hF3 hH3 hto hgood hL3 hR3 hA3
   by_cases hr0 : er = 0
   ·subst hr0
    have HR4 : Hid (commitL ⟨lr.most, lr.recs, { lr.ch with loose := decide (0 < lr.ch.cnt) }, lr.dn⟩ kr = (eR, lR, kR)) := by
     have h9 := HR3.out
     unfold openR.openD at h9
     rw [if_neg (by simp)] at h9
     exact h9
    clear HR3
    go_upto_region 3 with (first
     | (go_at_call 100; refine (hrs.mono (fun e w' h => And.intro (h.1.elim (fun k => k.2) (fun k => absurd rfl k.1)) h.2 : ∀ e w', _ → (e = .returned (.tuple #[]) ∧ _))).mono ?_; rintro e w4 ⟨rfl, F4, H4, hA4, hk4, hF4, hH4⟩))
    obtain ⟨v4, hL4, hR4⟩ := hA4.ex
    have p4 := hL4.c4
    have p6 := hL4.c6
    have z6 := hL4.fz 6
    obtain ⟨bo, Hbo⟩ : ∃ bo, Hid (decide (0 < lr.ch.cnt) = bo) := ⟨_, rfl⟩
    have hbo : decide ((0 : Int) < (lr.ch.cnt : Int)) = bo := by
     rw [← Hbo.out]
     by_cases h9 : 0 < lr.ch.cnt
     ·rw [decide_eq_true h9]; exact decide_eq_true (by omega)
     ·rw [decide_eq_false h9]; exact decide_eq_false (by omega)
    have hbo2 := Hbo.out
    obtain ⟨hA5, hL5, hR5, hk5⟩ := hA4.put hL4 hR4 6 (.bool bo) (c' := { lr.ch with loose := bo }) rfl
    have hse := settle_any (w4.setCell ⟨lb, 6, none⟩ (.bool bo)) F4 lb d lr.most v4 lr.dn kr lb 3 { lr.ch with loose := bo } { lr.ch with loose := bo } ⟨by rw [if_pos rfl]; exact hL5, fun _ => rfl, fun e => absurd rfl e⟩ hA5.pf (by show lr.ch.g < _; rw [g1, c1]; exact hblt) (by show lr.ch.cnt ≤ _; omega) (by omega) (by omega)
    have h9 := HR4.out
    unfold commitL at h9
    rw [Hbo.out] at h9
    dsimp only at h9
    obtain ⟨T, HT⟩ : ∃ T, Hid (settleL { lr.ch with loose := bo } lr.dn kr = T) := ⟨_, rfl⟩
    rw [HT.out] at hse h9
    obtain ⟨es, cs, dns, ks⟩ := T
    dsimp only at hse h9
    simp only [Prod.mk.injEq] at h9
    obtain ⟨e1, e2, e3⟩ := h9
    subst eR lR kR
    clear HR4
    have hdone : ∀ w7, Lcp (w4.setCell ⟨lb, 6, none⟩ (.bool bo)) F4 lb d lr.most v4 dns ks lb 3 { lr.ch with loose := bo } cs w7 → Lgp w F (fun _ => False) lb d ⟨lr.most, lr.recs, cs, dns⟩ ks w7 := fun w7 hp =>
     Lgp.next kp3 hF30 hH30 (Lgp.next hk4 hF4 hH4 (Lgp.next hk5 (fun i hi => Or.inl hi) (fun i hi => Or.inl hi) (hA5.stepc hR5 hp.own)))
    by_cases hs0 : es = 0
    ·subst hs0
     go_wp2_with (first
      | (go_at_call 68; refine (hse.mono (fun e w' h => And.intro (h.1.elim (fun k => k.2) (fun k => absurd rfl k.1)) h.2 : ∀ e w', _ → (e = .returned (.tuple #[]) ∧ _))).mono ?_; rintro e w6 ⟨rfl, hp6⟩))
     go_end0
     exact ⟨Or.inl ⟨rfl, rfl⟩, hdone w6 hp6⟩
    ·go_wp2_with (first
      | (go_at_call 68; refine (hse.mono (fun e w' h => And.intro (h.1.elim (fun k => absurd k.1 hs0) (fun k => k.2)) h.2 : ∀ e w', _ → (e = .panicked (gaveS es) ∧ _))).mono ?_; rintro e w6 ⟨rfl, hp6⟩))
     exact ⟨rfl, gs_no hs0 rfl, hdone w6 hp6⟩
   ·have h9 := HR3.out
    unfold openR.openD at h9
    rw [if_pos hr0] at h9
    simp only [Prod.mk.injEq] at h9
    obtain ⟨e1, e2, e3⟩ := h9
    subst eR lR kR
    clear HR3
    go_wp2_with (first
     | (go_at_call 100; refine (hrs.mono (fun e w' h => And.intro (h.1.elim (fun k => absurd k.1 hr0) (fun k => k.2)) h.2 : ∀ e w', _ → (e = .panicked (gaveS er) ∧ _))).mono ?_; rintro e w4 ⟨rfl, hp4⟩))
    exact ⟨rfl, gs_no hr0 rfl, Lgp.next kp3 hF30 hH30 hp4⟩
  ·have h9 := HR2.out
   unfold openR.openC at h9
   rw [if_pos hq0] at h9
   simp only [Prod.mk.injEq] at h9
   obtain ⟨e1, e2, e3⟩ := h9
   subst eR lR kR
   clear HR2
   go_wp2_with (first
    | (go_at_call 99; refine (hcl2.mono (fun e w' h => And.intro (h.1.elim (fun k => absurd k.1 hq0) (fun k => k.2)) h.2 : ∀ e w', _ → (e = .panicked (gaveS eq) ∧ _))).mono ?_; rintro e w3 ⟨rfl, hp3⟩))
   exact ⟨rfl, gs_no hq0 rfl, Lgp.next kp2 (fun i hi => Or.inl hi) (fun i hi => Or.inl hi) (hA2.stepc hR2 hp3)⟩
 ·have hba' := hba.mono (fun e w' h => And.intro (h.1.elim (fun k => absurd k.1 h0) (fun k => k.2)) h.2 : ∀ e w', _ → (e = .panicked (gaveS eb) ∧ _))
  clear hba
  have h9 := HR.out
  unfold openR at h9
  rw [if_pos h0] at h9
  simp only [Prod.mk.injEq] at h9
  obtain ⟨e1, e2, e3⟩ := h9
  subst eR lR kR
  clear HR
  go_enter Tryz.func61, Tryz.ntmps61
  go_wp2_with (go_at_call 98; refine hba'.mono ?_; rintro e w1 ⟨rfl, hb1⟩)
  exact ⟨rfl, gs_no h0 rfl, Lgp.from hb1 (Lgp.refl (h.below hb1))⟩
end Go.Proofs.YtikkieaokfailaaGreatDoor
namespace Go.Proofs.YtikkieaokfailaaGreatDoor
open Go.RowKit Go.Joins
theorem sopen_bad (d most : Int) (p : Value) (hp : p = .pointer (some ⟨d.toNat, 0, none⟩)) (h : most < 16 ∨ 1048576 < most) (w : World) : Calls Tryz.prog 20 #[p, .int .i64 most] w fun e w' => e = .returned (.tuple #[.pointer none, .int .i64 1]) ∧ w' = w := by
 subst hp
 by_cases h1 : most < 16
 ·clear h
  go_enter Tryz.func20, Tryz.ntmps20
  go_wp2
  go_ret2
  exact ⟨rfl, rfl⟩
 ·have h2 : 1048576 < most := by omega
  clear h
  go_enter Tryz.func20, Tryz.ntmps20
  go_wp2
  go_ret2
  exact ⟨rfl, rfl⟩
structure Opened (w w' : World) (F : Nat → Prop) (d : Nat) (r : Nat × Lg × Dk) (e : Ending) : Prop where
 no : r.1 ≠ 0 → e = .returned (.tuple #[.pointer none, .int .i64 (r.1 : Int)]) ∧ Dp w F d r.2.2 w'
 yes : r.1 = 0 → ∃ lb, e = .returned (.tuple #[.pointer (some ⟨lb, 0, none⟩), .int .i64 0]) ∧ w.heap.size ≤ lb ∧ ∃ F' H', LogAt w' F' H' lb d r.2.1 r.2.2 ∧ Keep F w w' ∧ (∀ i, F' i → F i ∨ w.heap.size ≤ i) ∧ (∀ i, H' i → w.heap.size ≤ i)
set_option maxHeartbeats 2000000 in
theorem sopen_any (w : World) (F : Nat → Prop) (d most : Nat) (k : Dk) (h1 : 16 ≤ most) (h2 : most ≤ 1048576) (hD : DiskAt w F d k) (hP : Pw w) (hFP : ∀ i, F i → 0 < i) (hfl : k.fs.length ≤ 2500) (hst : k.steps < 800000) (hu : used k.fs ≤ 900000) :
  Calls Tryz.prog 20 #[.pointer (some ⟨d, 0, none⟩), .int .i64 (most : Int)] w fun e w' => Opened w w' F d (openL most k) e := by
 have hmf : ∀ (fn : Fn) (first cap : Array Value) (w : World), (Instr.makeFunc fn first cap).run Tryz.prog w = .ok (.func fn first cap) w := fun _ _ _ _ => rfl
 have hlt := hD.lt
 have hpl := hP.at
 obtain ⟨W, hW⟩ : ∃ W, w.alloc (.cells (lcs d most (.slice none 0 0) ch0 false) 119) = W := ⟨_, rfl⟩
 have hB : Below w.heap.size w W := by rw [← hW]; exact (Below.refl _ _).alloc (Nat.le_refl _) _
 have q0 : W.heap[w.heap.size]? = some (.cells (lcs d most (.slice none 0 0) ch0 false) 119 (0, 0)) := by rw [← hW]; exact alloc_at w _
 have hLW : LogAt W F (fun _ => False) w.heap.size d (lg0 most) k := ⟨⟨_, ⟨q0, hD.below hB, fun hf => by have := hlt _ hf; omega⟩, rcA_nil W _⟩, fun i h => h.elim, fun h => h, fun i h => h.elim, ⟨hP.below hB, hFP, hpl⟩, fun i h => h.elim⟩
 have hop : Calls Tryz.prog 60 #[.func (.func 61) #[.pointer (some ⟨w.heap.size, 0, none⟩)] #[]] W fun e w' => e = .returned (.int .i64 (openL most k).1) ∧ Lgp W F (fun _ => False) w.heap.size d (openL most k).2.1 (openL most k).2.2 w' := by
  have hb0 : Below W.heap.size W (W.alloc (.cells #[.int .i64 0] 37)) := (Below.refl _ _).alloc (Nat.le_refl _) _
  have hbs := hB.size
  have hwW : w.heap.size < W.heap.size := (Array.getElem?_eq_some_iff.1 q0).1
  refine (attemptM 61 _ (openL most k).1 (fun w' => Lgp (W.alloc (.cells #[.int .i64 0] 37)) F (fun _ => False) w.heap.size d (openL most k).2.1 (openL most k).2.2 w') W (enters_of Tryz.func61 (by kernel_rfl) rfl) ((open_any _ F w.heap.size d most k (by omega) (hLW.below hb0) hfl hst hu).mono ?_)).mono ?_
  ·rintro e w' ⟨g1, g2⟩
   refine ⟨g1, g2, ?_⟩
   obtain ⟨F', H', _, hk, _⟩ := g2
   exact box_keep (alloc_at W _) hk (fun e => by
    rcases e with e | e | e
    ·have := hlt _ e; omega
    ·exact e
    ·omega)
  ·rintro e w' ⟨rfl, w1, g1, rfl⟩
   exact ⟨rfl, g1.err (fun i hi => by have := hlt i hi; omega) (fun i hi => hi.elim) hwW (by omega) _⟩
 obtain ⟨P, hPe⟩ : ∃ P, openL most k = P := ⟨_, rfl⟩
 rw [hPe] at hop ⊢
 clear hPe
 obtain ⟨en, l', k'⟩ := P
 dsimp only at hop
 have z1 : ¬ (most : Int) < 16 := by omega
 have z2 : ¬ (1048576 : Int) < (most : Int) := by omega
 have hbs := hB.size
 have hkeep : ∀ w1, Keep (fun i => F i ∨ False ∨ i = w.heap.size) W w1 → Keep F w w1 := fun w1 hk => (Keep.ofBelow hB).andThen hk (fun i hi hs => by
  rcases hs with hs | hs | hs
  ·exact hs
  ·exact hs.elim
  ·omega)
 have hWd : W = w.alloc (.cells #[.pointer (some ⟨d, 0, none⟩), .int .i64 (most : Int), .slice none 0 0, .int .u64 0, .int .i64 0, .int .i64 0, .bool false, .bool false] 119) := by rw [← hW]; rfl
 by_cases h0 : en = 0
 ·subst h0
  clear hLW q0 hW
  go_enter Tryz.func20, Tryz.ntmps20
  go_upto_region 4 with fail
  rw [← hWd]
  clear hWd
  go_wp2_with (first
   | (go_at_call 60; refine hop.mono ?_; rintro e w1 ⟨rfl, F1, H1, hA1, hk1, hF1, hH1⟩))
  go_ret2
  exact ⟨fun hne => absurd rfl hne, fun _ => ⟨w.heap.size, rfl, Nat.le_refl _, F1, H1, hA1, hkeep w1 hk1, fun i hi => (hF1 i hi).imp id (fun h9 => Nat.le_trans hbs h9), fun i hi => (hH1 i hi).elim (fun h9 => h9.elim) (fun h9 => Nat.le_trans hbs h9)⟩⟩
 ·have hne : ((en : Int) != 0) = true := by simp; exact h0
  have hne2 : ((en : Int) == 0) = false := by rw [beq_eq_false_iff_ne]; omega
  clear hLW q0 hW
  go_enter Tryz.func20, Tryz.ntmps20
  go_upto_region 4 with fail
  rw [← hWd]
  clear hWd
  go_wp2_with (first
   | (go_at_call 60; refine hop.mono ?_; rintro e w1 ⟨rfl, F1, H1, hA1, hk1, hF1, hH1⟩))
  go_ret2
  obtain ⟨v1, hL1, _⟩ := hA1.ex
  exact ⟨fun _ => ⟨rfl, F1, hL1.D, hkeep w1 hk1, fun i hi => (hF1 i hi).imp id (fun h9 => Nat.le_trans hbs h9)⟩, fun e => absurd e h0⟩
end Go.Proofs.YtikkieaokfailaaGreatDoor

namespace Go.Proofs.YtikkieaokfailaaGreatDoor
open Go.RowKit Go.Joins
theorem app_gr (k : Dk) (s : Nm) (xs : List Int) : (appK k s xs).2.steps ≤ k.steps + 1 ∧ (appK k s xs).2.fs.length ≤ k.fs.length + 1 := by
 unfold appK
 split
 ·exact ⟨Nat.le_succ _, Nat.le_succ _⟩
 ·split
  ·exact ⟨Nat.le_succ _, Nat.le_succ _⟩
  ·split
   ·exact ⟨Nat.le_succ _, Nat.le_succ _⟩
   ·unfold passK
    split
    ·exact ⟨Nat.le_refl _, len_put _ _ _⟩
    ·exact ⟨Nat.le_succ _, len_put _ _ _⟩
    ·exact ⟨Nat.le_refl _, len_put _ _ _⟩
theorem putS_gr (i sz : Nat) (c : Ch) (b : List Int) (dn : Bool) (k : Dk) : (putS i sz c b dn k).2.2.2.steps ≤ k.steps + 1 ∧ (putS i sz c b dn k).2.2.2.fs.length ≤ k.fs.length + 1 ∧ (putS i sz c b dn k).2.1.g = c.g ∧ (putS i sz c b dn k).2.1.cnt ≤ max c.cnt i ∧ (putS i sz c b dn k).2.1.size ≤ max c.size (sz + b.length) := by
 have h1 := stp_gr dn k (appK k (segN c.g i) b) (app_gr k _ _).1
 have h2 := stp_fl dn k (appK k (segN c.g i) b) (app_gr k _ _).2
 unfold putS
 dsimp only
 refine ⟨h1, h2, ?_, ?_, ?_⟩
 ·split <;> rfl
 ·split
  ·exact Nat.le_max_right _ _
  ·exact Nat.le_max_left _ _
 ·split
  ·exact Nat.le_max_right _ _
  ·exact Nat.le_max_left _ _
theorem settle_sz (c : Ch) (dn : Bool) (k : Dk) : (settleL c dn k).2.1.size = c.size := by
 unfold settleL
 split
 ·dsimp only
  split <;> rfl
 ·rfl
theorem lay_gr (most : Nat) (c : Ch) (b : List Int) (dn : Bool) (k : Dk) : (layL most c b dn k).2.2.2.steps ≤ k.steps + 2 ∧ (layL most c b dn k).2.2.2.fs.length ≤ k.fs.length + 2 ∧ (layL most c b dn k).2.1.g = c.g ∧ (layL most c b dn k).2.1.cnt ≤ max c.cnt 1 + 1 ∧ (layL most c b dn k).2.1.size ≤ c.size + b.length := by
 unfold layL
 obtain ⟨s1, s2, s3, s4⟩ := settle_gr c dn k
 have s5 := settle_sz c dn k
 split
 ·split
  ·exact ⟨by omega, by omega, s3, by omega, by omega⟩
  ·obtain ⟨p1, p2, p3, p4, p5⟩ := putS_gr (max c.cnt 1 + 1) 0 (settleL c dn k).2.1 b (settleL c dn k).2.2.1 (settleL c dn k).2.2.2
   exact ⟨by omega, by omega, p3.trans s3, by omega, by omega⟩
 ·obtain ⟨p1, p2, p3, p4, p5⟩ := putS_gr (max c.cnt 1) c.size c b dn k
  exact ⟨by omega, by omega, p3, by omega, by omega⟩
def layAllL (most : Nat) : List (List Int) → Ch → Bool → Dk → Nat × Ch × Bool × Dk
 | [], c, dn, k => settleL c dn k
 | r :: rs, c, dn, k => if (layL most c (formL r) dn k).1 ≠ 0 then layL most c (formL r) dn k else layAllL most rs (layL most c (formL r) dn k).2.1 (layL most c (formL r) dn k).2.2.1 (layL most c (formL r) dn k).2.2.2
theorem layAll_no {most : Nat} {r : List Int} {rs : List (List Int)} {c c' : Ch} {dn dn' : Bool} {k k' : Dk} {en : Nat} (h : layL most c (formL r) dn k = (en, c', dn', k')) (h0 : en ≠ 0) : layAllL most (r :: rs) c dn k = (en, c', dn', k') := by
 unfold layAllL
 rw [h, if_pos h0]
theorem layAll_ok {most : Nat} {r : List Int} {rs : List (List Int)} {c c' : Ch} {dn dn' : Bool} {k k' : Dk} (h : layL most c (formL r) dn k = (0, c', dn', k')) : layAllL most (r :: rs) c dn k = layAllL most rs c' dn' k' := by
 conv => lhs; unfold layAllL
 rw [h, if_neg (by simp)]
theorem layAll_gr (most : Nat) : ∀ (rs : List (List Int)) (c : Ch) (dn : Bool) (k : Dk), (layAllL most rs c dn k).2.2.2.steps ≤ k.steps + 2 * rs.length + 1 ∧ (layAllL most rs c dn k).2.2.2.fs.length ≤ k.fs.length + 2 * rs.length + 1 ∧ (layAllL most rs c dn k).2.1.g = c.g ∧ (layAllL most rs c dn k).2.1.cnt ≤ max c.cnt 1 + rs.length
 | [], c, dn, k => by
  obtain ⟨s1, s2, s3, s4⟩ := settle_gr c dn k
  exact ⟨s1, s2, s3, by show (settleL c dn k).2.1.cnt ≤ max c.cnt 1 + 0; omega⟩
 | r :: rs, c, dn, k => by
  obtain ⟨l1, l2, l3, l4, _⟩ := lay_gr most c (formL r) dn k
  unfold layAllL
  split
  ·exact ⟨by simp only [List.length_cons]; omega, by simp only [List.length_cons]; omega, l3, by simp only [List.length_cons]; omega⟩
  ·obtain ⟨i1, i2, i3, i4⟩ := layAll_gr most rs (layL most c (formL r) dn k).2.1 (layL most c (formL r) dn k).2.2.1 (layL most c (formL r) dn k).2.2.2
   exact ⟨by simp only [List.length_cons]; omega, by simp only [List.length_cons]; omega, i3.trans l3, by simp only [List.length_cons]; omega⟩
def RNot (w : World) (a : Option Addr) (n : Nat) (S : Nat → Prop) : Prop := (∀ ad, a = some ad → ¬ S ad.block) ∧ ∀ b off, a = some ⟨b, off, none⟩ → ∀ j, j < n → ∀ aj nj cj, w.cell? ⟨b, off + j, none⟩ = some (.slice aj nj cj) → ∀ ad, aj = some ad → ¬ S ad.block
theorem RRd.keepS {w w' : World} {a : Option Addr} {n : Nat} {xs : List (List Int)} {S : Nat → Prop} (h : RRd w a n xs) (hn : RNot w a n S) (hk : Keep S w w') : RRd w' a n xs := by
 refine ⟨h.len, h.most, fun h0 => ?_⟩
 obtain ⟨b, off, rfl, hc⟩ := h.flat h0
 refine ⟨b, off, rfl, fun j hj => ?_⟩
 obtain ⟨aj, nj, cj, c1, c2⟩ := hc j hj
 exact ⟨aj, nj, cj, hk.cell c1 (show ¬ S b from hn.1 ⟨b, off, none⟩ rfl), c2.keep hk (hn.2 b off rfl j hj aj nj cj c1)⟩
theorem RNot.keep {w w' : World} {a : Option Addr} {n : Nat} {xs : List (List Int)} {S T : Nat → Prop} (h : RRd w a n xs) (hn : RNot w a n S) (hk : Keep T w w') (hT : RNot w a n T) : RNot w' a n S := by
 refine ⟨hn.1, fun b off e j hj aj nj cj hc => ?_⟩
 obtain ⟨b', off', e', hce⟩ := h.flat (by omega)
 rw [e] at e'
 injection e' with e'
 injection e' with e1 e2
 subst e1 e2
 obtain ⟨aj', nj', cj', c1, _⟩ := hce j hj
 have c1' := hk.cell c1 (show ¬ T b from hT.1 ⟨b, off, none⟩ e)
 rw [hc] at c1'
 injection c1' with c1'
 injection c1' with q1 q2 q3
 subst q1 q2 q3
 exact hn.2 b off e j hj _ _ _ c1
set_option maxHeartbeats 2000000 in
theorem layAll_any (w : World) (F : Nat → Prop) (lb d most : Nat) (v : Value) (dn : Bool) (k : Dk) (b : Nat) (c0 c : Ch) (h : LC w F lb d most v dn k b 0 c0 c) (hP : Pf w F lb) (hPb : 0 < b) (hg : c.g < 18446744073709551616) (hi : c.cnt ≤ 1000000000) (hz : c.size ≤ 1000000000) (hmo : most ≤ 1000000000)
  (a : Option Addr) (n cc : Nat) (rs : List (List Int)) (hR : RRd w a n rs) (hnS : RNot w a n (fun i => F i ∨ i = lb ∨ i = b)) (hn : n ≤ 10000) (hrl : ∀ r ∈ rs, r.length ≤ 1048576) (hst : k.steps + 2 * n < 999990) (hfl : k.fs.length + 2 * n < 999990) :
  Calls Tryz.prog 110 #[.pointer (some ⟨lb, 0, none⟩), .pointer (some ⟨b, 0, none⟩), .slice a n cc] w fun e w' => Gs (layAllL most rs c dn k).1 e ∧ Lcp w F lb d most v (layAllL most rs c dn k).2.2.1 (layAllL most rs c dn k).2.2.2 b 0 c0 (layAllL most rs c dn k).2.1 w' := by
 obtain ⟨R, HR⟩ : ∃ R, Hid (layAllL most rs c dn k = R) := ⟨_, rfl⟩
 rw [HR.out]
 obtain ⟨eR, cR, dnR, kR⟩ := R
 dsimp only
 have hnm := hR.most
 have Hn : Hid (rs.length = n) := hR.len
 have hpl := hP.pw.at
 go_enter Tryz.func110, Tryz.ntmps110
 go_upto_region 1 with fail
 go_loopw [7, 10] (fun _ s10 wr => ∃ (j : Nat) (F1 : Nat → Prop) (dn1 : Bool) (k1 : Dk) (c1 : Ch), s10 = .int .i64 j ∧ j ≤ n ∧ k1.steps + 2 * (n - j) < 999990 ∧ k1.fs.length + 2 * (n - j) < 999990 ∧ c1.cnt ≤ 1000000001 + j ∧ c1.size ≤ 1000000000 + j * 1048584 ∧ c1.g < 18446744073709551616 ∧ Hid (LC wr F1 lb d most v dn1 k1 b 0 c0 c1) ∧ Hid (Pf wr F1 lb) ∧ Hid (Keep (fun i => F i ∨ i = lb ∨ i = b) w wr) ∧ Hid (∀ i, F1 i → F i ∨ w.heap.size ≤ i) ∧ Hid (layAllL most (rs.drop j) c1 dn1 k1 = (eR, cR, dnR, kR))) (fun _ s10 _ => n - (intOf s10).toNat)
 case atStart => exact ⟨0, F, dn, k, c, rfl, by omega, by omega, by omega, by omega, by omega, hg, h, hP, Keep.refl _ _, fun i hi => Or.inl hi, HR.out⟩
 case round =>
  obtain ⟨j, F1, dn1, k1, c1, rfl, hjn, hs1, hf1, hc1, hz1, hg1, HL, HP, HK, HF, HQ⟩ := hrel
  have hws := HK.out.size
  by_cases hlt : j < n
  ·have hcl : (j : Int) < (n : Int) := by omega
   have hRr := hR.keepS hnS HK.out
   obtain ⟨bb, off, rfl, hce⟩ := hRr.flat (by omega)
   obtain ⟨aj, nj, cj, hcj, hrj⟩ := hce j hlt
   clear hce hRr
   obtain ⟨r, hr⟩ : ∃ r, rs[j]? = some r := ⟨_, List.getElem?_eq_getElem (by rw [Hn.out]; exact hlt)⟩
   have hrd : rs.getD j [] = r := by rw [List.getD_eq_getElem?_getD, hr]; rfl
   rw [hrd] at hrj
   have hrm := hrl r (List.mem_of_getElem? hr)
   have hdr : rs.drop j = r :: rs.drop (j + 1) := by
    rw [List.drop_eq_getElem_cons (by rw [Hn.out]; exact hlt)]
    congr 1
    rw [List.getElem?_eq_getElem (by rw [Hn.out]; exact hlt)] at hr
    exact Option.some.inj hr
   have HQn : Hid (layAllL most (r :: rs.drop (j + 1)) c1 dn1 k1 = (eR, cR, dnR, kR)) := by
    have h9 := HQ.out
    rw [hdr] at h9
    exact h9
   have hla := lay_any wr F1 lb d most v dn1 k1 b 0 c0 c1 HL.out HP.out hPb hg1 (by omega) (by omega) (by omega) (by omega) (by omega) aj nj cj r hrj (by rw [← hrj.len]; exact hrm)
   obtain ⟨g1, g2, g3, g4, g5⟩ := lay_gr most c1 (formL r) dn1 k1
   have hfln := formL_len r
   obtain ⟨P, HP2⟩ : ∃ P, Hid (layL most c1 (formL r) dn1 k1 = P) := ⟨_, rfl⟩
   rw [HP2.out] at hla g1 g2 g3 g4 g5
   obtain ⟨en, c2, dn2, k2⟩ := P
   dsimp only at hla g1 g2 g3 g4 g5
   clear HQ hr hrd hdr
   by_cases h0 : en = 0
   ·subst h0
    have HQ2 : Hid (layAllL most (rs.drop (j + 1)) c2 dn2 k2 = (eR, cR, dnR, kR)) := by
     show _ = _
     rw [← layAll_ok HP2.out]
     exact HQn.out
    clear HQn
    go_wp2_with (first
     | (go_at_call 65; refine (hla.mono (fun e w' h => And.intro (h.1.elim (fun k => k.2) (fun k => absurd rfl k.1)) h.2 : ∀ e w', _ → (e = .returned (.tuple #[]) ∧ _))).mono ?_; rintro e w6 ⟨rfl, hp⟩))
    obtain ⟨F2, hL2, hk2, hF2⟩ := hp
    have hkall : Keep (fun i => F i ∨ i = lb ∨ i = b) w w6 := HK.out.andThen hk2 (fun q hq hs => by
     rcases hs with hs | hs
     ·rcases HF.out q hs with h9 | h9
      ·exact Or.inl h9
      ·omega
     ·exact Or.inr hs)
    exact ⟨⟨j + 1, F2, dn2, k2, c2, by go_num, by omega, by omega, by omega, by omega, by omega, by omega, hL2, HP.out.next3 hPb hk2 hF2, hkall, fun q hq => (hF2 q hq).elim (HF.out q) (fun h9 => Or.inr (Nat.le_trans hws h9)), HQ2.out⟩, by simp [intOf]; omega⟩
   ·have hres := HQn.out.symm.trans (layAll_no HP2.out h0)
    simp only [Prod.mk.injEq] at hres
    obtain ⟨e1, e2, e3, e4⟩ := hres
    subst eR cR dnR kR
    clear HQn
    go_wp2_with (first
     | (go_at_call 65; refine (hla.mono (fun e w' h => And.intro (h.1.elim (fun k => absurd k.1 h0) (fun k => k.2)) h.2 : ∀ e w', _ → (e = .panicked (gaveS en) ∧ _))).mono ?_; rintro e w6 ⟨rfl, hp⟩))
    exact ⟨rfl, gs_no h0 rfl, Lcp.next HK.out HF.out hp⟩
  ·have hcl : ¬ (j : Int) < (n : Int) := by omega
   have hQ := HQ.out
   rw [List.drop_eq_nil_of_le (by rw [Hn.out]; omega)] at hQ
   have HQ2 : Hid (settleL c1 dn1 k1 = (eR, cR, dnR, kR)) := hQ
   have hse := settle_any wr F1 lb d most v dn1 k1 b 0 c0 c1 HL.out HP.out hg1 (by omega) (by omega) (by omega)
   rw [HQ2.out] at hse
   dsimp only at hse
   clear hQ HQ
   by_cases h0 : eR = 0
   ·subst h0
    go_wp2_with (first
     | (go_at_call 68; refine (hse.mono (fun e w' h => And.intro (h.1.elim (fun k => k.2) (fun k => absurd rfl k.1)) h.2 : ∀ e w', _ → (e = .returned (.tuple #[]) ∧ _))).mono ?_; rintro e w6 ⟨rfl, hp⟩))
    go_end0
    exact ⟨Or.inl ⟨rfl, rfl⟩, Lcp.next HK.out HF.out hp⟩
   ·go_wp2_with (first
     | (go_at_call 68; refine (hse.mono (fun e w' h => And.intro (h.1.elim (fun k => absurd k.1 h0) (fun k => k.2)) h.2 : ∀ e w', _ → (e = .panicked (gaveS eR) ∧ _))).mono ?_; rintro e w6 ⟨rfl, hp⟩))
    exact ⟨rfl, gs_no h0 rfl, Lcp.next HK.out HF.out hp⟩
end Go.Proofs.YtikkieaokfailaaGreatDoor

namespace Go.Proofs.YtikkieaokfailaaGreatDoor
open Go.RowKit Go.Joins
theorem Lcp.err {w0 w1 : World} {o : Obj} {F : Nat → Prop} {lb d most : Nat} {v : Value} {dn : Bool} {k : Dk} {b off : Nat} {c0 c : Ch} (h : Lcp (w0.alloc o) F lb d most v dn k b off c0 c w1) (hF : ∀ i, F i → i < w0.heap.size) (hlb : lb < w0.heap.size) (hb : b < w0.heap.size) (u : Value) : Lcp w0 F lb d most v dn k b off c0 c (w1.setCell ⟨w0.heap.size, 0, none⟩ u) := by
 obtain ⟨F', h1, h2, h3⟩ := h
 have hs : (w0.alloc o).heap.size = w0.heap.size + 1 := by simp
 have hk : Keep (fun k => k = w0.heap.size) w1 (w1.setCell ⟨w0.heap.size, 0, none⟩ u) := (Keep.refl (fun k => k = w0.heap.size) w1).setCell (p := ⟨w0.heap.size, 0, none⟩) rfl u
 have hnF : ∀ i, F' i → i ≠ w0.heap.size := fun i hi e => by
  rcases h3 i hi with h | h
  ·have := hF i h; omega
  ·omega
 exact ⟨F', h1.keep hk hnF (by omega) (by omega), (((Keep.refl _ w0).alloc o).trans h2).setNew (Nat.le_refl _) u, fun i hi => (h3 i hi).imp id (fun h => by omega)⟩
theorem attempt_C (f : Nat) (caps : Array Value) (en : Nat) (W : World) (F : Nat → Prop) (lb d most : Nat) (v : Value) (dn dn' : Bool) (k k' : Dk) (b : Nat) (c0 c c' : Ch) (h : LC W F lb d most v dn k b 0 c0 c) (hent : ∀ args w, (callFunc f args).run Tryz.prog w = .ok (.enter f args) w)
  (hC : LC (W.alloc (.cells #[.int .i64 0] 37)) F lb d most v dn k b 0 c0 c → Below W.heap.size W (W.alloc (.cells #[.int .i64 0] 37)) → Calls Tryz.prog f caps (W.alloc (.cells #[.int .i64 0] 37)) fun e w' => Gs en e ∧ Lcp (W.alloc (.cells #[.int .i64 0] 37)) F lb d most v dn' k' b 0 c0 c' w') :
  Calls Tryz.prog 60 #[.func (.func f) #[] caps] W fun e w' => e = .returned (.int .i64 en) ∧ Lcp W F lb d most v dn' k' b 0 c0 c' w' := by
 have hb0 : Below W.heap.size W (W.alloc (.cells #[.int .i64 0] 37)) := (Below.refl _ _).alloc (Nat.le_refl _) _
 have hF := h.L.D.lt
 have hlb := h.L.lt
 have hb := h.ltb
 refine (attemptS f caps en (fun w' => Lcp (W.alloc (.cells #[.int .i64 0] 37)) F lb d most v dn' k' b 0 c0 c' w') W hent ((hC (h.below hb0) hb0).mono ?_)).mono ?_
 ·rintro e w' ⟨h1, h2⟩
  refine ⟨h1, h2, ?_⟩
  obtain ⟨F', _, hk, _⟩ := h2
  exact box_keep (alloc_at W _) hk (fun e => by
   rcases e with e | e | e
   ·have := hF _ e; omega
   ·omega
   ·omega)
 ·rintro e w' ⟨rfl, w1, h1, rfl⟩
  exact ⟨rfl, h1.err hF hlb hb _⟩
theorem ifRoom_any (x : Value) (f1 f2 : Nat) (caps1 caps2 : Array Value) (e1 e2 : Nat) (P1 P2 : World → Prop) (w : World) (hent : ∀ args w, (callFunc f2 args).run Tryz.prog w = .ok (.enter f2 args) w)
  (h1 : Calls Tryz.prog 60 #[.func (.func f1) #[] caps1] w fun e w' => e = .returned (.int .i64 e1) ∧ P1 w')
  (h2 : e1 = 8 → ∀ w1, P1 w1 → Calls Tryz.prog f2 caps2 w1 fun e w' => Gs e2 e ∧ P2 w') :
  Calls Tryz.prog 108 #[x, .func (.func f1) #[] caps1, .func (.func f2) #[] caps2] w fun e w' => Gs (if e1 = 8 then (if e2 ≠ 0 then e2 else 8) else e1) e ∧ (if e1 = 8 then P2 w' else P1 w') := by
 by_cases h8 : e1 = 8
 ·subst h8
  rw [if_pos rfl]
  have h2' := h2 rfl
  have z8 : ((8 : Nat) : Int) = 8 := rfl
  by_cases h0 : e2 = 0
  ·subst h0
   rw [if_neg (by simp)]
   have h2c := fun w1 hp => (h2' w1 hp).mono (fun e w' h => And.intro (h.1.elim (fun k => k.2) (fun k => absurd rfl k.1)) h.2 : ∀ e w', _ → (e = .returned (.tuple #[]) ∧ _))
   clear h2' h2
   go_enter Tryz.func108, Tryz.ntmps108
   go_wp2_with (first
    | (go_at_call 60; refine h1.mono ?_; rintro e w1 ⟨rfl, hp1⟩)
    | (go_at_fn f2; refine (h2c w1 hp1).mono ?_; rintro e w2 ⟨rfl, hp2⟩)
    | (go_at_call 129; refine (sask_no 8 _).mono ?_; rintro e w3 ⟨rfl, h3⟩; replace h3 := h3.symm; subst h3))
   exact ⟨rfl, gs_no (by decide) rfl, hp2⟩
  ·rw [if_pos h0]
   have h2c := fun w1 hp => (h2' w1 hp).mono (fun e w' h => And.intro (h.1.elim (fun k => absurd k.1 h0) (fun k => k.2)) h.2 : ∀ e w', _ → (e = .panicked (gaveS e2) ∧ _))
   clear h2' h2
   go_enter Tryz.func108, Tryz.ntmps108
   go_wp2_with (first
    | (go_at_call 60; refine h1.mono ?_; rintro e w1 ⟨rfl, hp1⟩)
    | (go_at_fn f2; refine (h2c w1 hp1).mono ?_; rintro e w2 ⟨rfl, hp2⟩))
   exact ⟨rfl, gs_no h0 rfl, hp2⟩
 ·rw [if_neg h8]
  have z8 : ((e1 : Int) == 8) = false := by rw [beq_eq_false_iff_ne]; omega
  clear h2
  by_cases h0 : e1 = 0
  ·subst h0
   go_enter Tryz.func108, Tryz.ntmps108
   go_wp2_with (first
    | (go_at_call 60; refine h1.mono ?_; rintro e w1 ⟨rfl, hp1⟩)
    | (go_at_call 129; refine (sask_ok 0 _).mono ?_; rintro e w3 ⟨rfl, h3⟩; replace h3 := h3.symm; subst h3))
   go_end0
   exact ⟨Or.inl ⟨rfl, rfl⟩, hp1⟩
  ·have z0 : ((e1 : Int) == 0) = false := by rw [beq_eq_false_iff_ne]; omega
   go_enter Tryz.func108, Tryz.ntmps108
   go_wp2_with (first
    | (go_at_call 60; refine h1.mono ?_; rintro e w1 ⟨rfl, hp1⟩)
    | (go_at_call 129; refine (sask_no e1 _).mono ?_; rintro e w3 ⟨rfl, h3⟩; replace h3 := h3.symm; subst h3))
   exact ⟨rfl, gs_no h0 rfl, hp1⟩
theorem mk0R (w : World) (M : Nat) (hM : M ≤ 10000000) : ∃ w', (Instr.makeSlice 30 (.int .i64 0) (.int .i64 M)).run Tryz.prog w = .ok (.slice (some ⟨w.heap.size, 0, none⟩) 0 M) w' ∧ w'.ownsRow w.heap.size 29 1 (.slice (some ⟨w.heap.size, 0, none⟩) 0 M) 0 [] ∧ Below w.heap.size w w' := by
 obtain ⟨i0, hi, hz0, hz1, hz2⟩ := info_parts infoRow
 obtain ⟨w', h1, h2, h3⟩ := run_make_own w w.heap.size 30 29 i0 (.slice none 0 0) 1 Tryz.underlying30 hi hz0 hz1 .i64 .i64 M (by rw [hz2]; omega) (by unfold maxLen; omega) (Nat.le_refl _)
 exact ⟨w', h1, h2, (Below.refl _ _).grown h3 (Nat.le_refl _) (fun k hk => by cases hk)⟩
theorem wp_appRow {w : World} {ops : Array Oper} {rest : List Oper} {o : Oper} {a : Act} {Q : Exit → Act → World → Prop} (hgd : o.guard = none) (s x : Operand)
  (ho : o.op = .call { callee := .builtin .append, args := #[s, x], argTypes := #[30, 30] })
  (base : Nat) (v : Value) (n : Nat) (xs : List Value) (hs : a.eval s = v) (hown : w.ownsRow base 29 1 v n xs) (ao : Option Addr) (m c : Nat)
  (hx : a.eval x = .slice (some ⟨w.heap.size, 0, none⟩) 1 1) (hn : n ≤ 1000000) (hbase : base ≤ w.heap.size)
  (h : ∀ v' w', w'.ownsRow base 29 1 v' (n + 1) (xs ++ [.slice ao m c]) → Keep (fun k => v.ownBlock = some k) w w' → (v'.ownBlock = v.ownBlock ∨ ∃ g, v'.ownBlock = some g ∧ w.heap.size ≤ g) → wpList Tryz.prog ops Q rest (a.put o.dst v') w') : wpList Tryz.prog ops Q (o :: rest) a (w.alloc (.cells #[.slice ao m c] 29)) := by
 refine wpList_plain hgd fun K hK => ?_
 obtain ⟨v', w', hrun, h2, h3, h4⟩ := run_appW o.type hown ao m c hn hbase
 unfold Oper.wp
 simp only [execOp, ho, resolve, invoke, builtin, Sem.run_bind, Sem.run_pure, Result.andThen_ok, List.map_toArray, List.map_cons, List.map_nil, hs, hx, hrun]
 exact hK _ _ (h v' w' h2 h3 h4)
set_option maxHeartbeats 2000000 in
theorem clones_any (a : Option Addr) (n c : Nat) (rs : List (List Int)) (w : World) (hR : RRd w a n rs) (hn : n ≤ 100000) (hrl : ∀ r ∈ rs, r.length ≤ 1048576) :
  Calls Tryz.prog 120 #[.slice a n c] w fun e w' => ∃ v, e = .returned v ∧ RcA w' (fun i => w.heap.size ≤ i ∧ i < w'.heap.size) v rs ∧ Below w.heap.size w w' := by
 obtain ⟨w1, hmk, ho1, hb1⟩ := mk0R w n (by omega)
 have Hn : Hid (rs.length = n) := hR.len
 have hnm := hR.most
 go_enter Tryz.func120, Tryz.ntmps120
 go_upto_region 3 with fail
 go_loopw [3, 5, 11] (fun s3 _ s11 wr => ∃ (j : Nat) (v : Value), s3 = v ∧ s11 = .int .i64 j ∧ j ≤ n ∧ Hid (RcA wr (fun i => w.heap.size ≤ i ∧ i < wr.heap.size) v (rs.take j)) ∧ Hid (Below w.heap.size w wr)) (fun _ _ s11 _ => n - (intOf s11).toNat)
 case atStart =>
  refine ⟨0, _, rfl, rfl, by omega, ?_, hb1⟩
  show RcA _ _ _ (rs.take 0)
  rw [List.take_zero]
  exact ⟨⟨[], own_weak ho1 (Nat.zero_le _), fun i r hr => by simp at hr⟩, fun g hg => by
   have := ho1.lt g hg
   exact ⟨this.1, this.2⟩⟩
 case round =>
  obtain ⟨j, v, rfl, rfl, hjn, HR, HB⟩ := hrel
  by_cases hlt : j < n
  ·have hcl : (j : Int) < (n : Int) := by omega
   have hRr := hR.below HB.out
   obtain ⟨bb, off, rfl, hce⟩ := hRr.flat (by omega)
   obtain ⟨aj, nj, cj, hcj, hrj⟩ := hce j hlt
   clear hce hRr
   obtain ⟨r, hr⟩ : ∃ r, rs[j]? = some r := ⟨_, List.getElem?_eq_getElem (by rw [Hn.out]; exact hlt)⟩
   have hrd : rs.getD j [] = r := by rw [List.getD_eq_getElem?_getD, hr]; rfl
   rw [hrd] at hrj
   have hrm := hrl r (List.mem_of_getElem? hr)
   have htk : rs.take (j + 1) = rs.take j ++ [r] := by
    rw [List.take_add_one, hr]
    rfl
   have hbc := bcloneO aj nj cj r wr hrj (by rw [← hrj.len]; omega)
   obtain ⟨⟨vs, ov, hvs⟩, hvo⟩ := HR.out
   have hlj : (rs.take j).length = j := by rw [List.length_take, Hn.out]; omega
   have HLj : Hid ((rs.take j).length = j) := hlj
   have ovj := ov
   rw [hlj] at ovj
   obtain ⟨av, cv, hv⟩ := own_sl ovj
   subst hv
   have HTk : Hid (rs.take (j + 1) = rs.take j ++ [r]) := htk
   have hbd := hrj.bytes
   have hlen := hrj.len
   clear hrj hr hrd htk hlj
   go_wp2_with (first
    | (go_at_call 66; refine hbc.mono ?_; rintro e w5 ⟨u5, rfl, o5, hb5⟩; obtain ⟨a5, c5, rfl, _⟩ := Rd.ofOwn o5 hbd; have ov5 := own_keep (S := fun _ => False) ovj (Keep.ofBelow hb5) (fun _ _ h => h))
    | (at_builtin; refine wp_appRow rfl (.tmp 15) (.tmp 18) rfl 0 (.slice av j cv) j vs rfl ov5 a5 nj c5 rfl (by omega) (Nat.zero_le _) ?_; intro v6 w6 o6 hk6 hwh6; obtain ⟨a6, c6, rfl⟩ := own_sl o6))
   have h0s := HB.out.size
   have h5s := hb5.size
   have h6s := hk6.size
   have hB5 : Below w.heap.size w w5 := HB.out.trans (hb5.mono h0s)
   have hB6 : Below w.heap.size w w6 := hB5.trans (hk6.low hB5.size (fun i hi => (hvo i hi).1))
   have hR6 : RcA w6 (fun i => w.heap.size ≤ i ∧ i < w6.heap.size) (.slice a6 (j + 1) c6) (rs.take j ++ [r]) := by
    refine RcA.app (w := w5) (vs := vs) (v := .slice av j cv) (u := .slice a5 nj c5) (by rw [HLj.out]; exact ov5) (fun i r hr => ?_) (by rw [HLj.out]; exact o6) hk6 (by rw [hlen]; exact own_weak o5 (Nat.zero_le _)) (fun g hg => ?_) hbd (fun g hg => ?_)
    ·obtain ⟨u2, m1, m2, m3, m4⟩ := hvs i r hr
     exact ⟨u2, m1, own_keep (S := fun _ => False) m2 (Keep.ofBelow hb5) (fun _ _ h => h), fun g hg => by have := m3 g hg; exact ⟨this.1, by omega⟩, m4⟩
    ·have := o5.lt g hg
     exact ⟨by omega, by omega⟩
    ·rcases hwh6 with h9 | ⟨g9, h9, h10⟩
     ·have := hvo g (by rw [← h9]; exact hg)
      exact ⟨this.1, by omega⟩
     ·rw [h9] at hg
      injection hg with hg
      subst hg
      refine ⟨by omega, ?_⟩
      obtain ⟨cur, e⟩ := own_blkT o6 h9
      exact (Array.getElem?_eq_some_iff.1 e).1
   exact ⟨⟨j + 1, _, rfl, by go_num, by omega, by show RcA _ _ _ _; rw [HTk.out]; exact hR6, hB6⟩, by simp [intOf]; omega⟩
  ·have hcl : ¬ (j : Int) < (n : Int) := by omega
   have hR9 := HR.out
   rw [List.take_of_length_le (by rw [Hn.out]; omega)] at hR9
   go_wp2
   go_ret
   exact ⟨_, rfl, hR9, HB.out⟩
end Go.Proofs.YtikkieaokfailaaGreatDoor
