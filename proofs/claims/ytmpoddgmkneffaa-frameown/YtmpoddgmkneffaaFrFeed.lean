/- (*Reader).Feed. -/
import Derived.Test.YtmpoddgmkneffaaFrWhole
import Derived.Maps.AppendAt
namespace Go.Proofs.Ytmpoddgmkneffaa
open Go.RowKit Go.Shelf

attribute [local go_sem] Oper.semAt_some

theorem Try.info31 : (Try.prog.info? 31).map (fun i => (i.zero, i.size, i.bytes)) = some (some (.slice none 0 0), 1, 24) := by kernel_rfl

/-- Payloads: each in a block of its own, one behind the other, from lo on. -/
def Pays (W : World) : Nat → List Value → List (List Int) → Prop
  | _, [], [] => True
  | lo, v :: vs, x :: xs => ∃ g cap, v = .slice (some ⟨g, 0, none⟩) x.length cap ∧ W.ownsRow lo 5 1 v x.length (bc x) ∧ Bd x ∧ Pays W (g + 1) vs xs
  | _, [], _ :: _ => False
  | _, _ :: _, [] => False

theorem row_block {W : World} {lo n : Nat} {g cap : Nat} {x : List Value} (h : W.ownsRow lo 5 1 (.slice (some ⟨g, 0, none⟩) n cap) n x) : lo ≤ g ∧ ∃ cur, W.heap[g]? = some (.cells cur 5 (0, 0)) := by
  rcases h.2 with ⟨hv, _⟩ | ⟨g', cap', cur, hv, hg, hh, _⟩
  · cases hv
  · cases hv; exact ⟨hg, cur, hh⟩

theorem Pays.keep {S : Nat → Prop} {W W' : World} (hk : Keep S W W') : ∀ {vs : List Value} {xs : List (List Int)} {lo : Nat}, Pays W lo vs xs → (∀ k cur, lo ≤ k → W.heap[k]? = some (.cells cur 5 (0, 0)) → ¬ S k) → Pays W' lo vs xs
  | [], [], _, _, _ => trivial
  | [], _ :: _, _, h, _ => h.elim
  | _ :: _, [], _, h, _ => h.elim
  | v :: vs, x :: xs, lo, h, hS => by
    obtain ⟨g, cap, rfl, hown, hbd, hr⟩ := h
    obtain ⟨hg, cur, hh⟩ := row_block hown
    refine ⟨g, cap, rfl, own_keep hown hk (fun k e => ?_), hbd, Pays.keep hk hr (fun k cur' hk' hc => hS k cur' (by omega) hc)⟩
    cases e
    exact hS g cur hg hh

theorem Pays.weak {W : World} : ∀ {vs : List Value} {xs : List (List Int)} {lo lo' : Nat}, Pays W lo vs xs → lo' ≤ lo → Pays W lo' vs xs
  | [], [], _, _, _, _ => trivial
  | [], _ :: _, _, _, h, _ => h.elim
  | _ :: _, [], _, _, h, _ => h.elim
  | _ :: _, _ :: _, _, _, ⟨g, cap, rfl, h1, b1, hr⟩, hl => ⟨g, cap, rfl, own_weak h1 hl, b1, hr⟩

theorem Pays.len {W : World} : ∀ {vs : List Value} {xs : List (List Int)} {lo : Nat}, Pays W lo vs xs → vs.length = xs.length
  | [], [], _, _ => rfl
  | [], _ :: _, _, h => h.elim
  | _ :: _, [], _, h => h.elim
  | _ :: _, _ :: _, _, ⟨_, _, _, _, _, hr⟩ => by simp [hr.len]

theorem Pays.one {W : World} : ∀ {vs : List Value} {xs : List (List Int)} {lo : Nat}, Pays W lo vs xs → ∀ v ∈ vs, v.oneCell' = true
  | [], [], _, _, _, hv => by cases hv
  | [], _ :: _, _, h, _, _ => h.elim
  | _ :: _, [], _, h, _, _ => h.elim
  | _ :: _, _ :: _, _, ⟨_, _, rfl, _, _, hr⟩, v, hv => by
    rcases List.mem_cons.1 hv with rfl | h
    · rfl
    · exact hr.one v h

theorem Pays.snoc {W : World} {F : Nat} {g cap : Nat} {x : List Int} (hown : W.ownsRow F 5 1 (.slice (some ⟨g, 0, none⟩) x.length cap) x.length (bc x)) (hbd : Bd x) :
    ∀ {vs : List Value} {xs : List (List Int)} {lo : Nat}, Pays W lo vs xs → lo ≤ g → (∀ v ∈ vs, ∀ k, v.ownBlock = some k → k < F) → Pays W lo (vs ++ [.slice (some ⟨g, 0, none⟩) x.length cap]) (xs ++ [x])
  | [], [], lo, _, hlo, _ => ⟨g, cap, rfl, own_from hown (fun k e => by cases e; exact hlo), hbd, trivial⟩
  | [], _ :: _, _, h, _, _ => h.elim
  | _ :: _, [], _, h, _, _ => h.elim
  | _ :: _, _ :: _, lo, ⟨g1, cap1, rfl, h1, b1, hr⟩, hlo, hlt => by
    refine ⟨g1, cap1, rfl, h1, b1, Pays.snoc hown hbd hr ?_ (fun v hv => hlt v (List.mem_cons_of_mem _ hv))⟩
    have e1 := hlt _ (List.mem_cons_self ..) g1 rfl
    have e2 := (row_block hown).1
    omega

theorem Pays.blk {W : World} : ∀ {vs : List Value} {xs : List (List Int)} {lo : Nat}, Pays W lo vs xs → ∀ v ∈ vs, ∀ k, v.ownBlock = some k → lo ≤ k ∧ k < W.heap.size
  | [], [], _, _, _, hv => by cases hv
  | [], _ :: _, _, h, _, _ => h.elim
  | _ :: _, [], _, h, _, _ => h.elim
  | _ :: _, _ :: _, lo, ⟨g, _, rfl, ho, _, hr⟩, v, hv => fun k hk => by
    rcases List.mem_cons.1 hv with rfl | h
    · exact ho.lt k hk
    · have h1 := hr.blk v h k hk
      have h2 := (row_block ho).1
      omega

/-- What Feed's loop has gathered: the box B, its row, the payloads; what it keeps since the loop began. -/
def Got (p B : Nat) (W0 : World) (s : List (List Int)) (W : World) : Prop :=
  (∃ pv vs, Boxed W B 22 pv ∧ W.ownsRow (B + 3) 31 1 pv s.length vs ∧ Pays W (B + 3) vs s) ∧ Keep (fun k => k = p ∨ k = B) W0 W

theorem own_type {W : World} {lo n sz : Nat} {e : TypeId} {v : Value} {xs : List Value} (h : W.ownsRow lo e sz v n xs) {k : Nat} (hk : v.ownBlock = some k) : lo ≤ k ∧ ∃ cur, W.heap[k]? = some (.cells cur e (0, 0)) := by
  rcases h.2 with ⟨rfl, _⟩ | ⟨g, cap', cur, rfl, hg, hh, _⟩
  · cases hk
  · cases hk; exact ⟨hg, cur, hh⟩

theorem Got.keep {p B : Nat} {W0 : World} {s : List (List Int)} {W W' : World} (h : Got p B W0 s W) (hp : p < B) (hsz : W0.heap.size = B + 1) (hk : Keep (fun k => k = p ∨ k = W0.heap.size ∨ k = W0.heap.size + 1) W W') : Got p B W0 s W' := by
  obtain ⟨⟨pv, vs, hb, hr, hP⟩, hK⟩ := h
  refine ⟨⟨pv, vs, (hk.block B hb.lt (by omega)).trans hb, own_keep hr hk (fun k e => ?_), hP.keep hk (fun k cur hl _ => by omega)⟩, hK.andThen hk (fun i hi hs => by omega)⟩
  have := (hr.lt k e).1
  omega

theorem RC.grown {w w1 : World} {p M B0 n : Nat} {v u : Value} {big : Bool} {xs : List Value} (h : RC w p M u big) (hown : w.ownsRow B0 5 1 v n xs) (hg : w.grownBy w1 v.ownBlock) : RC w1 p M u big := by
  refine (hg.block p h.lt (fun e => ?_)).trans h
  obtain ⟨_, cur, hh⟩ := own_type hown e.symm
  rw [show w.heap[p]? = _ from h] at hh
  simp at hh

theorem RC.not_row {w : World} {p M B0 n : Nat} {v u : Value} {big : Bool} {xs : List Value} (h : RC w p M u big) (hown : w.ownsRow B0 5 1 v n xs) : v.ownBlock ≠ some p := fun e => by
  obtain ⟨_, cur, hh⟩ := own_type hown e
  rw [show w.heap[p]? = _ from h] at hh
  simp at hh

/-- What Feed answers and leaves. -/
def Fed (w : World) (p M B0 : Nat) (v : Value) (r : List (List Int) × List Int × Bool) (e : Ending) (w' : World) : Prop :=
  ∃ a c vs v', e = .returned (.tuple #[.slice a r.1.length c, .int .i64 (if r.2.2 = true then 5 else 0)]) ∧
    RC w' p M v' r.2.2 ∧ w'.ownsRow B0 5 1 v' r.2.1.length (bc r.2.1) ∧ (∀ k, v'.ownBlock = some k → v.ownBlock = some k ∨ w.heap.size ≤ k) ∧
    w'.ownsRow w.heap.size 31 1 (.slice a r.1.length c) r.1.length vs ∧ Pays w' w.heap.size vs r.1 ∧ (∀ k, v'.ownBlock = some k → ∀ u ∈ vs, ∀ j, u.ownBlock = some j → j < k) ∧
    Keep (fun k => k = p ∨ v.ownBlock = some k) w w'

set_option maxHeartbeats 1600000 in
theorem feed_aux (p M B0 : Nat) (v : Value) (held : List Int) (ab : Option Addr) (nb cb : Nat) (bs : List Int) (w : World) (hC : RC w p M v false) (hown : w.ownsRow B0 5 1 v held.length (bc held)) (hB0 : B0 ≤ w.heap.size) (hbd : Bd held)
    (hR : Rd w ab nb cb bs) (hlen : held.length + nb ≤ 1000000) (ps : List (List Int)) (hd : List Int) (big : Bool) (HR : Hid (cut M (held ++ bs) = (ps, hd, big))) :
    Calls Try.prog 11 #[.pointer (some ⟨p, 0, none⟩), .slice ab nb cb] w (Fed w p M B0 v (ps, hd, big)) := by
  have hc1 := hC.c1
  have hc2 := hC.c2
  obtain ⟨a0, c0, rfl, hr0⟩ := Rd.ofOwn hown hbd
  refine (callsIn_wide (n := 0)).1 (callsIn_of_wp_marks Try.func11 rfl trivial ?_ rfl)
  refine wpIn_wide.2 ?_
  simp only [Try.ntmps11, List.size_toArray, List.length_cons, List.length_nil, Nat.reduceAdd, Nat.reduceSub, Array.replicate_succ, Array.replicate_zero, List.push_toArray, List.append_toArray, List.nil_append, List.cons_append]
  go_wp2_with (at_builtin; refine wp_app rfl _ _ rfl B0 _ held.length held rfl hown ab nb cb bs rfl hR (by omega) hB0 ?_; intro v1 w1 hown1 hgr1 hwh1; have hC1 := hC.grown hown hgr1; obtain ⟨a1, c1, rfl, hr1⟩ := Rd.ofOwn hown1 (hbd.append hR.bytes); have hx1 := hC1.c1; have hx2 := hC1.fz 1)
  have hwh : (Value.slice a1 (held.length + nb) c1).ownBlock = (Value.slice a0 held.length c0).ownBlock ∨ (Value.slice a1 (held.length + nb) c1).ownBlock = some w.heap.size := hwh1
  have hgr : w.grownBy w1 (Value.slice a0 held.length c0).ownBlock := hgr1
  clear hwh1 hgr1
  have hp1 : p < w1.heap.size := hC1.lt
  have hne : (Value.slice a1 (held.length + nb) c1).ownBlock ≠ some p := hC1.not_row hown1
  generalize hW : (w1.setCell ⟨p, 1, none⟩ (.slice a1 (held.length + nb) c1)).alloc (.cells #[.slice none 0 0] 22) = W
  have hsz : W.heap.size = w1.heap.size + 1 := by rw [← hW]; simp [World.setCell]
  have hCW : RC W p M (.slice a1 (held.length + nb) c1) false := by
    rw [← hW]; exact (Below.heap_alloc _ _ _ (by simpa [World.setCell] using hp1)).trans (hC1.set1 _)
  have hkW : Keep (fun k => k = p) w1 W := by rw [← hW]; exact (Keep.setCell (S := fun k => k = p) (Keep.refl _ _) rfl _).alloc _
  have hownW : W.ownsRow B0 5 1 (.slice a1 (held.length + nb) c1) (held.length + nb) (bc (held ++ bs)) := own_keep hown1 hkW (fun k e h => hne (by rw [e, h]))
  have hrW : Rd W a1 (held.length + nb) c1 (held ++ bs) := hr1.keep hkW (fun ad e h => hne (by rw [e]; exact congrArg some h))
  have hbox : Boxed W w1.heap.size 22 (.slice none 0 0) := by
    rw [← hW]; have h := Boxed.new (w1.setCell ⟨p, 1, none⟩ (.slice a1 (held.length + nb) c1)) 22 (.slice none 0 0); simpa [World.setCell] using h
  refine wp_range (gf := 23) (p := p) (n₀ := w1.heap.size) rfl (enters_of Try.func23 (by kernel_rfl) rfl) rfl hp1 (by omega) (Got p w1.heap.size W)
    (fun s X => s = ps ∧ ∃ a' n' c', RC X p M (.slice a' n' c') big ∧ Rd X a' n' c' hd ∧ (big = false → (s = [] ∧ Value.slice a' n' c' = .slice a1 (held.length + nb) c1) ∨ (s ≠ [] ∧ ∃ b o, a' = some ⟨b, o, none⟩ ∧ (Value.slice a1 (held.length + nb) c1).ownBlock = some b)) ∧ (big = true → a' = none ∧ n' = 0 ∧ c' = 0))
    (fun s X X' h hk => h.keep hp1 hsz hk) ⟨⟨.slice none 0 0, [], hbox, World.ownsRow_nil _ _ _ _, trivial⟩, Keep.refl _ _⟩ ?hit (fun u => { tmps := #[.pointer (some ⟨p, 0, none⟩), .slice ab nb cb, undef, undef, .slice none 0 0, .int .i64 0, .pointer (some ⟨w1.heap.size, 0, none⟩), u, .pointer (some ⟨p, 0, none⟩), .pointer (some ⟨p, 0, none⟩), .pointer (some ⟨p, 2, none⟩), .bool false, .pointer (some ⟨p, 0, none⟩), .pointer (some ⟨p, 0, none⟩), .pointer (some ⟨p, 0, none⟩), .pointer (some ⟨p, 1, none⟩), .slice a0 held.length c0, .slice ab nb cb, .slice a1 (held.length + nb) c1, .pointer (some ⟨p, 0, none⟩), .pointer (some ⟨p, 1, none⟩), .pointer (some ⟨p, 0, none⟩), .func (.func 23) #[.pointer (some ⟨p, 0, none⟩)] #[], u, undef, undef, undef, undef, undef, undef, undef, undef, undef, undef, undef, undef, undef, undef, undef, undef, undef, undef, undef, undef, undef], defers := [] }) ?assign ?body ?done
  case hit =>
    intro J hJ hY X hX h0
    have hCX : RC X p M (.slice a1 (held.length + nb) c1) false := (hX.block p (by omega)).trans hCW
    have hRX := hrW.carry (Nat.le_refl _) hX
    have hl := hR.len
    rcases hown1.2 with ⟨hv, h00⟩ | ⟨g1, cap1, cur1, hv, _, hh1, _⟩
    · rw [hv] at hCX
      have hnil : held ++ bs = [] := List.eq_nil_of_length_eq_zero (by rw [List.length_append, hl]; exact h00)
      have hr := HR.out
      rw [hnil, cut_short (l := []) (by simp)] at hr
      injection hr with e1 e2
      injection e2 with e2 e3
      subst e1 e2 e3
      refine callsIn_wide.2 ((whole_nil _ p M J X hCX h0).mono ?_)
      rintro e X' ⟨hv', hC', hJ'⟩
      exact ⟨hv', [], ⟨rfl, none, 0, 0, hC', rd_nil _, (fun _ => .inl ⟨rfl, hv.symm⟩), (fun h => by cases h)⟩, hJ'⟩
    · cases hv
      have hg1 : g1 < w1.heap.size := (Array.getElem?_eq_some_iff.1 hh1).1
      refine callsIn_wide.2 ((whole_any _ p w1.heap.size M g1 0 _ c1 (held ++ bs) J hJ hY hp1 hg1 X hCX (fun e => hne (by rw [e]; rfl)) hRX (by omega) h0).mono ?_)
      rintro e X' ⟨hv', a', n', c', hC', hR', hb', hb2', hJ'⟩
      rw [HR.out] at hC' hR' hb' hb2' hJ'
      exact ⟨hv', _, ⟨rfl, a', n', c', hC', hR', (fun h => by
        obtain ⟨⟨o', h1⟩, h2⟩ := hb' h
        by_cases hs : ps = []
        · obtain ⟨e1, e2, e3⟩ := h2 hs
          exact .inl ⟨hs, by rw [e1, e2, e3]⟩
        · exact .inr ⟨hs, g1, o', h1, rfl⟩), hb2'⟩, hJ'⟩
  case assign =>
    intro l u X K hK
    gi_wp2
    exact hK
  case body =>
    intro l s x W0 X g k cap hxk hsl hG hkp hownx hbdx hN hn1 hn2
    obtain ⟨⟨pv, vs, hbx0, hrow0, hP0⟩, hK0⟩ := hG
    have hKX := hK0.andThen hkp (fun i hi hs => by omega)
    have hkp' : Keep (fun k => k = p ∨ k = w1.heap.size + 1 ∨ k = w1.heap.size + 1 + 1) W0 X := by rw [hsz] at hkp; exact hkp
    have hbx : Boxed X w1.heap.size 22 pv := (hkp'.block _ hbx0.lt (by omega)).trans hbx0
    have hrow : X.ownsRow (w1.heap.size + 3) 31 1 pv s.length vs := own_keep hrow0 hkp' (fun k e => by have := (hrow0.lt k e).1; omega)
    have hP : Pays X (w1.heap.size + 3) vs s := hP0.keep hkp' (fun k cur hl _ => by omega)
    have hlt : ∀ v ∈ vs, ∀ k, v.ownBlock = some k → k < W0.heap.size := fun v hv k e => (hP0.blk v hv k e).2
    have hX0 := hkp.size
    clear hbx0 hrow0 hP0 hkp hkp'
    have hcB := hbx.cell
    have hfB := hbx.frozen
    have hBX := hbx.lt
    obtain ⟨i0, hi, hz0, hz1, hz2⟩ := info_parts Try.info31
    dsimp only
    gi_wp2_with (gi_at_builtin; refine wpListIn_append_own _ rfl _ _ 22 rfl (w1.heap.size + 3) 31 i0 (.slice none 0 0) 1 24 Try.underlying22 hi hz0 hz1 hz2 rfl (by decide) _ _ _ rfl (hrow.alloc _) ⟨X.heap.size, 0, none⟩ 1 1 [.slice (some ⟨g, 0, none⟩) k cap] rfl rfl (cell_one_new _ _ _) (by simp [Value.oneCell']) (by unfold maxLen; omega) (by omega) (by simp; omega) ?_; intro v' w2 hown' hgrow0 _; have hgrow : (X.alloc (.cells #[.slice (some ⟨g, 0, none⟩) k cap] 31)).grownBy w2 pv.ownBlock := hgrow0; clear hgrow0; obtain ⟨g', cap', rfl⟩ := ownsRow_succ hown'; obtain ⟨q1, q2, q3, q4, q5⟩ := Boxed.appended (n₀ := w1.heap.size) hbx (by decide) (own_weak hrow (by omega)) (by omega) (Nat.le_refl _) (own_weak hown' (by omega)) hgrow; have hcB2 := q1.cell; have hfB2 := q1.frozen)
    obtain ⟨o1, ho1, hc1'⟩ := hn1
    obtain ⟨o2, ho2, hc2'⟩ := hn2
    refine ⟨q5, (q4.same _ _ ho1 hc1').trans ho1.symm, (q4.same _ _ ho2 hc2').trans ho2.symm, ?_⟩
    have hkk : Keep (fun k => pv.ownBlock = some k ∨ k = w1.heap.size) X (w2.setCell ⟨w1.heap.size, 0, none⟩ (.slice (some ⟨g', 0, none⟩) (s.length + 1) cap')) :=
      ((((Keep.refl _ X).alloc _).andThen (Keep.ofGrown hgrow) (fun i _ e => .inl e)).setCell (.inr rfl) _)
    have hty : ∀ j cur, w1.heap.size + 3 ≤ j → X.heap[j]? = some (.cells cur 5 (0, 0)) → ¬ (pv.ownBlock = some j ∨ j = w1.heap.size) := by
      rintro j cur hj hc (e | e)
      · obtain ⟨_, cur', hc'⟩ := own_type hrow e
        rw [hc] at hc'
        simp at hc'
      · omega
    have hgl := (row_block hownx).1
    obtain ⟨_, curx, hcx⟩ := row_block hownx
    refine ⟨⟨_, vs ++ [.slice (some ⟨g, 0, none⟩) k cap], q2, ?_, ?_⟩, hKX.andThen hkk (fun i hi hs => hs.elim (fun e => absurd (hrow.lt i e).1 (by omega)) .inr)⟩
    · rw [List.length_append]
      refine own_keep hown' (Keep.setCell (S := fun k => k = w1.heap.size) (Keep.refl _ _) rfl _) (fun j e => ?_)
      have := (hown'.lt j e).1
      omega
    · subst hxk
      refine Pays.snoc (F := W0.heap.size) (own_keep hownx hkk (fun j e => ?_)) hbdx (hP.keep hkk hty) (by omega) hlt
      cases e
      exact hty g curx (by omega) hcx
  case done =>
    rintro s X X' ⟨rfl, a', n', c', hCX, hRX, hbX, hbX2⟩ hG hkX hD
    dsimp only
    have hC' := hCX.keep hkX (show ¬ p = W.heap.size + 1 by omega)
    obtain ⟨⟨pv, vs, hbx, hrow, hP⟩, hKX⟩ := hG
    obtain ⟨apv, cpv, rfl⟩ : ∃ a c, pv = .slice a s.length c := by
      rcases hrow.2 with ⟨rfl, h⟩ | ⟨g, cap, _, rfl, _⟩
      · exact ⟨none, 0, by rw [h]⟩
      · exact ⟨_, _, rfl⟩
    have hcB := hbx.cell
    have hy1 := hC'.c1
    have hy2 := hC'.c2
    have hy3 := hC'.fz 1
    have hsw := hgr.size
    have hK1 : Keep (fun k => k = p ∨ (Value.slice a0 held.length c0).ownBlock = some k) w X' :=
      (((Keep.ofGrown hgr).mono (fun i e => .inr e)).andThen hkW (fun i _ e => .inl e)).andThen hKX (fun i hi e => e.elim .inl (fun e => by omega))
    rw [hsz] at hD
    have hY : ∀ X2 : World, Keep (fun k => k = w1.heap.size + 1) X2 (X2.putObj (w1.heap.size + 1) (.deferred none)) := fun X2 => keep_put (S := fun k => k = w1.heap.size + 1) (Keep.refl _ _) rfl _
    have hPs : ∀ X2, Keep (fun k => k = p ∨ k = w1.heap.size + 1) X' X2 → X2.ownsRow w.heap.size 31 1 (.slice apv s.length cpv) s.length vs ∧ Pays X2 w.heap.size vs s := fun X2 hk =>
      ⟨own_weak (own_keep hrow hk (fun k e h => by have := (hrow.lt k e).1; omega)) (by omega), (hP.keep hk (fun k cur hl _ => by omega)).weak (by omega)⟩
    cases hbig : big with
    | true =>
      subst hbig
      obtain ⟨rfl, rfl, rfl⟩ := hbX2 rfl
      have hhd : hd = [] := by have := cut_held M (held ++ bs); rw [HR.out] at this; exact this rfl
      subst hhd
      go_wp2
      refine ⟨by simp, .inl ⟨_, _, rfl, run_takeDeferred hD, _, results_tmp2 rfl _ _ _, ?_⟩⟩
      have hq := hPs _ ((hY X').mono (fun i e => .inr e))
      exact ⟨apv, cpv, vs, .slice none 0 0, rfl, hC'.keep (hY X') (show ¬ p = w1.heap.size + 1 by omega), World.ownsRow_nil _ _ _ _, (fun k e => by cases e), hq.1, hq.2, (fun k e => by cases e), hK1.andThen (hY X') (fun i hi e => by omega)⟩
    | false =>
      subst hbig
      have hcut := cut_len M (held ++ bs)
      rw [HR.out, List.length_append, hR.len] at hcut
      rcases hbX rfl with ⟨rfl, hv⟩ | ⟨hs0, b', o', rfl, hb1⟩
      · rw [hv] at hC' hy1
        go_wp2
        have hl2 : hd = held ++ bs := cut_none (M := M) (by rw [HR.out])
        have hlen2 : (held ++ bs).length = held.length + nb := by rw [List.length_append, hR.len]
        subst hl2
        refine ⟨by simp, .inl ⟨_, _, rfl, run_takeDeferred hD, _, results_tmp2 rfl _ _ _, ?_⟩⟩
        have hq := hPs _ ((hY X').mono (fun i e => .inr e))
        have hvs : vs = [] := List.eq_nil_of_length_eq_zero (by have := hP.len; simpa using this)
        subst hvs
        have hoX : X'.ownsRow B0 5 1 (.slice a1 (held.length + nb) c1) (held.length + nb) (bc (held ++ bs)) :=
          own_keep hownW hKX (fun k e h => h.elim (fun h => hne (by rw [e, h])) (fun h => absurd (hown1.lt k e).2 (by omega)))
        have hoY := own_keep hoX (hY X') (fun k e h => absurd (hown1.lt k e).2 (by omega))
        refine ⟨apv, cpv, [], _, rfl, hC'.keep (hY X') (show ¬ p = w1.heap.size + 1 by omega), ?_, ?_, hq.1, hq.2, (fun k _ u hu => by cases hu), hK1.andThen (hY X') (fun i hi e => by omega)⟩
        · show World.ownsRow _ B0 5 1 _ (held ++ bs).length (bc (held ++ bs))
          rw [hlen2]; exact hoY
        · intro k e
          rcases hwh with h | h
          · exact .inl (by rw [← h]; exact e)
          · rw [h] at e; cases e; exact .inr (Nat.le_refl _)
      · have hRX' : Rd X' (some ⟨b', o', none⟩) n' c' hd := hRX.keep hkX (fun ad e h => by
          cases e
          have h1 := (hown1.lt _ hb1).2
          have h2 : b' = W.heap.size + 1 := h
          omega)
        have hnl := hRX'.len
        have hsl : 0 < s.length := List.length_pos_iff.2 hs0
        have hsz0 : (0 : Int) < (s.length : Int) := by omega
        go_wp2_with (go_at_call 24; refine (clone_any b' o' n' c' hd _ hRX' (by omega)).mono ?_; rintro e w5 ⟨g5, cap5, rfl, hown5, hgr5⟩; have hC5 : RC w5 p M _ false := (hgr5.block p hC'.lt (by simp)).trans hC'; have hz1 := hC5.c1; have hz2 := hC5.fz 1; have hcB5 := hgr5.cell hcB (by simp))
        have hk6 : Keep (fun k => k = p) X' (w5.setCell ⟨p, 1, none⟩ (.slice (some ⟨g5, 0, none⟩) n' cap5)) := Keep.setCell (S := fun k => k = p) ((Keep.ofGrown hgr5).mono (fun i e => by cases e)) rfl _
        have hD6 : (w5.setCell ⟨p, 1, none⟩ (.slice (some ⟨g5, 0, none⟩) n' cap5)).heap[w1.heap.size + 1]? = some (.deferred (some [])) :=
          (hk6.block _ (Array.getElem?_eq_some_iff.1 hD).1 (by omega)).trans hD
        refine ⟨by simp, .inl ⟨_, _, rfl, run_takeDeferred hD6, _, results_tmp2 rfl _ _ _, ?_⟩⟩
        have hk7 := (hk6.mono (T := fun k => k = p ∨ k = w1.heap.size + 1) (fun i e => .inl e)).trans ((hY _).mono (fun i e => .inr e))
        have hq := hPs _ hk7
        have hXs := hbx.lt
        have ho6 : (w5.setCell ⟨p, 1, none⟩ (.slice (some ⟨g5, 0, none⟩) n' cap5)).ownsRow X'.heap.size 5 1 (.slice (some ⟨g5, 0, none⟩) n' cap5) n' (bc hd) :=
          own_keep hown5 (Keep.setCell (S := fun k => k = p) (Keep.refl _ _) rfl _) (fun k e h => absurd (hown5.lt k e).1 (by omega))
        have ho7 := own_keep ho6 (hY _) (fun k e h => absurd (hown5.lt k e).1 (by have := (Array.getElem?_eq_some_iff.1 hD).1; omega))
        have hXw := hK1.size
        refine ⟨apv, cpv, vs, _, rfl, (hC5.set1 _).keep (hY _) (show ¬ p = w1.heap.size + 1 by omega), ?_, ?_, hq.1, hq.2, ?_, hK1.andThen hk7 (fun i hi e => e.elim .inl (fun e => by omega))⟩
        · rw [hnl]; exact own_weak ho7 (by omega)
        · intro k e
          exact .inr (by have := (hown5.lt k e).1; omega)
        · intro k e u hu j hj
          have h1 := (hown5.lt k e).1
          have h2 := (hP.blk u hu j hj).2
          omega

theorem feed_any (p M B0 : Nat) (v : Value) (held : List Int) (ab : Option Addr) (nb cb : Nat) (bs : List Int) (w : World) (hC : RC w p M v false) (hown : w.ownsRow B0 5 1 v held.length (bc held)) (hB0 : B0 ≤ w.heap.size) (hbd : Bd held)
    (hR : Rd w ab nb cb bs) (hlen : held.length + nb ≤ 1000000) : Calls Try.prog 11 #[.pointer (some ⟨p, 0, none⟩), .slice ab nb cb] w (Fed w p M B0 v (cut M (held ++ bs))) :=
  feed_aux p M B0 v held ab nb cb bs w hC hown hB0 hbd hR hlen _ _ _ (rfl : cut M (held ++ bs) = _)

theorem feed_big (p M : Nat) (v : Value) (ab : Option Addr) (nb cb : Nat) (w : World) (hC : RC w p M v true) :
    Calls Try.prog 11 #[.pointer (some ⟨p, 0, none⟩), .slice ab nb cb] w fun e w' => e = .returned (.tuple #[.slice none 0 0, .int .i64 5]) ∧ w' = w := by
  have hc2 := hC.c2
  go_enter Try.func11, Try.ntmps11
  go_wp2
  go_ret2
  exact ⟨rfl, rfl⟩

end Go.Proofs.Ytmpoddgmkneffaa
