/- PrivacyAll: what stands behind a rule of all counts for nothing. -/
import Derived.Test.YtiplalbicibahaaDoorPvM
set_option maxRecDepth 100000
namespace Go.Proofs.YtiplalbicibahaaDoor
open Go.RowKit Go.Joins Go.Shelf

/-! ### without memory -/
def wOne : By := [111, 110, 101]
def wTwo : By := [116, 119, 111]
def lastT (k : Nat) : By := if k = 0 then [97, 108, 108, 111, 119, 32, 98, 111, 116, 104, 32, 97, 108, 108] else [100, 101, 110, 121, 32, 98, 111, 116, 104, 32, 97, 108, 108]
def lr (b : Bool) : Rul := ⟨b, true, true, wAll, []⟩
theorem last_parse (k : Nat) : parseR (lastT k) = (lr (decide (k = 0)), 0) := by
  unfold lastT lr
  by_cases h : k = 0
  · rw [if_pos h, decide_eq_true h]; kernel_rfl
  · rw [if_neg h, decide_eq_false h]; kernel_rfl
theorem last_len (k : Nat) : (lastT k).length ≤ 120 := by unfold lastT; split <;> decide
theorem read_app : ∀ xs ys : List By, (readR (xs ++ ys)).2 = 0 → (readR xs).2 = 0 ∧ (readR ys).2 = 0 ∧ (readR (xs ++ ys)).1 = (readR xs).1 ++ (readR ys).1
  | [], ys, h => ⟨rfl, h, rfl⟩
  | x :: xs, ys, h => by
    rw [List.cons_append, readR] at h
    rw [List.cons_append, readR, readR]
    by_cases h1 : (parseR x).2 = 0
    · rw [if_pos h1] at h
      rw [if_pos h1, if_pos h1]
      by_cases h2 : (readR (xs ++ ys)).2 = 0
      · obtain ⟨k1, k2, k3⟩ := read_app xs ys h2
        rw [if_pos h2, if_pos k1]
        exact ⟨rfl, k2, by rw [k3]; rfl⟩
      · rw [if_neg h2] at h; exact absurd h h2
    · rw [if_neg h1] at h; exact absurd h h1
theorem allows_behind (y : Qy) (b : Bool) (xs ys : List Rul) : allowsR y (xs ++ [lr b]) = allowsR y (xs ++ [lr b] ++ ys) := by
  have hf : fitsR y (lr b) = true := by
    unfold fitsR lr
    cases y.i <;> rfl
  have h : (xs ++ [lr b] ++ ys).find? (fitsR y) = (xs ++ [lr b]).find? (fitsR y) := by
    rw [List.find?_append]
    have : ((xs ++ [lr b]).find? (fitsR y)).isSome = true := by
      rw [List.find?_isSome]
      exact ⟨lr b, by simp, hf⟩
    cases hx : (xs ++ [lr b]).find? (fitsR y) with
    | none => rw [hx] at this; cases this
    | some r => rfl
  unfold allowsR
  rw [h]
theorem set_zero {P : Pl} {s : By} {ts : List By} (h : (setR P s ts).1 = 0) : (readR ts).2 = 0 ∧ (setR P s ts).2 = putP P s (readR ts).1 := by
  unfold setR at h ⊢
  by_cases h1 : nameE s ≠ 0
  · rw [if_pos h1] at h; exact absurd h h1
  · rw [if_neg h1] at h ⊢
    by_cases h2 : (readR ts).2 ≠ 0
    · rw [if_pos h2] at h; exact absurd h h2
    · rw [if_neg h2] at h ⊢
      by_cases h3 : fullR P s ts.length = true
      · rw [if_pos h3] at h; exact absurd h (by show ¬ (8 : Nat) = 0; decide)
      · rw [if_neg h3]
        exact ⟨Decidable.not_not.1 h2, rfl⟩
theorem held_put (P : Pl) (s : By) (rs : List Rul) : heldR (putP P s rs) s = rs := by
  unfold heldR heldN
  have : (putP P s rs).m s = some rs := putM_same P.m s (some rs)
  rw [this]
  simp [this]
theorem held_other (P : Pl) (s u : By) (rs qs : List Rul) (h : u ≠ s) : heldR (putP (putP P u qs) s rs) u = qs := by
  unfold heldR heldN
  have : (putP (putP P u qs) s rs).m u = some qs := by
    show putM (putP P u qs).m s (some rs) u = _
    rw [putM_other _ _ h]
    exact putM_same P.m u (some qs)
  rw [this]
  simp [this]
/-- Lists that hold none but 'one' and 'two'. -/
structure Pok (P : Pl) : Prop where
  li : P.li = 3
  ru : P.ru = 100
  us : P.us = []
  m : ∀ s, s ≠ wOne → s ≠ wTwo → P.m s = none
theorem Pok.start : Pok (pl0 3 100) := ⟨rfl, rfl, rfl, fun _ _ _ => rfl⟩
theorem Pok.put {P : Pl} (h : Pok P) (s : By) (hs : s = wOne ∨ s = wTwo) (rs : List Rul) : Pok (putP P s rs) := by
  refine ⟨h.li, h.ru, h.us, fun u h1 h2 => ?_⟩
  show putM P.m s (some rs) u = none
  rw [putM_other _ _ (by rcases hs with e | e <;> (subst e; assumption))]
  exact h.m u h1 h2
theorem Pok.set {P : Pl} (h : Pok P) (s : By) (hs : s = wOne ∨ s = wTwo) (ts : List By) : Pok (setR P s ts).2 := by
  by_cases h0 : (setR P s ts).1 = 0
  · rw [(set_zero h0).2]; exact h.put s hs _
  · unfold setR at h0 ⊢
    split
    · exact h
    · split
      · exact h
      · split
        · exact h
        · rename_i h1 h2 h3
          rw [if_neg h1, if_neg h2, if_neg h3] at h0
          exact absurd rfl h0
theorem two_len : ∀ ks : List By, ks.Nodup → (∀ s ∈ ks, s = wOne ∨ s = wTwo) → ks.length ≤ 2
  | [], _, _ => by decide
  | [_], _, _ => by show 1 ≤ 2; decide
  | [_, _], _, _ => by show 2 ≤ 2; decide
  | a :: b :: c :: _, h, k => by
    exfalso
    have ha := k a (by simp)
    have hb := k b (by simp)
    have hc := k c (by simp)
    rw [List.nodup_cons, List.nodup_cons] at h
    have h1 : a ≠ b := fun e => h.1 (by simp [e])
    have h2 : a ≠ c := fun e => h.1 (by simp [e])
    have h3 : b ≠ c := fun e => h.2.1 (by simp [e])
    rcases ha with rfl | rfl <;> rcases hb with rfl | rfl <;> rcases hc with rfl | rfl <;> simp_all
theorem all_none {P : Pl} (h : Pok P) (hk : P.ks.length ≤ 2) : setR P wNone [] = (0, putP P wNone []) := by
  unfold setR
  rw [if_neg (show ¬ (nameE wNone ≠ 0) by decide +kernel), if_neg (show ¬ ((readR []).2 ≠ 0) by decide)]
  have : fullR P wNone ([] : List By).length = false := by
    unfold fullR
    rw [h.m wNone (by decide) (by decide), h.li, h.ru]
    simp
    omega
  rw [this, if_neg (by decide)]
  rfl

/-! ### the law -/
theorem St.weak {B : Nat} {w0 w : World} {q : Nat} {P : Pl} {Z Z' : Nat → Prop} (h : St B w0 w q P Z') (hz : ∀ i, Z i → Z' i) : St B w0 w q P Z := by
  obtain ⟨F, hL, hF⟩ := h.ex
  exact ⟨⟨F, hL, fun i hi => ⟨(hF i hi).1, fun z => (hF i hi).2 (hz i z)⟩⟩, h.bl, h.sz, fun i hi => h.zl i (hz i hi)⟩
theorem St.keys {B : Nat} {w0 w : World} {q : Nat} {P : Pl} {Z : Nat → Prop} (h : St B w0 w q P Z) (hp : Pok P) : P.ks.length ≤ 2 := by
  obtain ⟨F, ⟨mb, m, hL⟩, _⟩ := h.ex
  refine two_len P.ks hL.nd (fun s hs => ?_)
  have := (hL.mem s).2 hs
  by_cases h1 : s = wOne
  · exact Or.inl h1
  · by_cases h2 : s = wTwo
    · exact Or.inr h2
    · rw [hp.m s h1 h2] at this; cases this
/-- All that the law holds. -/
structure AlS (w : World) (B : Nat) (o : Op7) (la : Option Addr) (N lcp : Nat) (A : List By) (gk q : Nat) (Z : Nat → Prop) (P : Pl) (W : World) : Prop where
  st : St B w W q P Z
  b1 : W.heap[B]? = some (.cells (oc o) 39 (0, 0))
  l : TRd W la N lcp A
  kc : W.heap[gk]? = some (.cells #[.string (ba (lastT 0)), .string (ba (lastT 1))] 9 (0, 0))
  lz : ∀ ad, la = some ad → Z ad.block
  zo : Z B
  zk : Z gk
section
variable {w W W' : World} {B : Nat} {o : Op7} {la : Option Addr} {N lcp : Nat} {A : List By} {gk q : Nat} {Z Z' : Nat → Prop} {P P' : Pl}
theorem AlS.c3 (h : AlS w B o la N lcp A gk q Z P W) : W.cell? ⟨B, 3, none⟩ = some (.bool o.i) := by rw [cell_of_block h.b1]; rfl
theorem AlS.c4 (h : AlS w B o la N lcp A gk q Z P W) : W.cell? ⟨B, 4, none⟩ = some (.string (ba o.c)) := by rw [cell_of_block h.b1]; rfl
theorem AlS.c5 (h : AlS w B o la N lcp A gk q Z P W) : W.cell? ⟨B, 5, none⟩ = some (.slice o.ga o.gn o.gc) := by rw [cell_of_block h.b1]; rfl
theorem AlS.c6 (h : AlS w B o la N lcp A gk q Z P W) : W.cell? ⟨B, 6, none⟩ = some (.string (ba o.s)) := by rw [cell_of_block h.b1]; rfl
theorem AlS.below (h : AlS w B o la N lcp A gk q Z P W) (hb : Below W.heap.size W W') : AlS w B o la N lcp A gk q Z P W' := ⟨h.st.below hb, box_below h.b1 hb, h.l.below hb, box_below h.kc hb, h.lz, h.zo, h.zk⟩
theorem AlS.grow (h : AlS w B o la N lcp A gk q Z P W) (hb : Below W.heap.size W W') : AlS w B o la N lcp A gk q (fun i => Z i ∨ (W.heap.size ≤ i ∧ i < W'.heap.size)) P W' := ⟨h.st.grow hb, box_below h.b1 hb, h.l.below hb, box_below h.kc hb, fun ad e => Or.inl (h.lz ad e), Or.inl h.zo, Or.inl h.zk⟩
theorem AlS.turn (h : AlS w B o la N lcp A gk q Z P W) (h' : St B w W' q P' Z) (hk : Keep (Oth B Z) W W') : AlS w B o la N lcp A gk q Z P' W' := ⟨h', box_keep h.b1 hk (fun e => e.2 h.zo), h.l.keep hk (fun ad e k => k.2 (h.lz ad e)), box_keep h.kc hk (fun e => e.2 h.zk), h.lz, h.zo, h.zk⟩
theorem AlS.weak (h : AlS w B o la N lcp A gk q Z' P W) (hz : ∀ i, Z i → Z' i) (lz : ∀ ad, la = some ad → Z ad.block) (zo : Z B) (zk : Z gk) : AlS w B o la N lcp A gk q Z P W := ⟨h.st.weak hz, h.b1, h.l, h.kc, lz, zo, zk⟩
end
set_option maxHeartbeats 1600000 in
theorem privacyAll_any (a0 : Option Addr) (n0 c0 : Nat) (ts0 : List By) (a1 : Option Addr) (n1 c1 : Nat) (ts1 : List By) (o : Op7) (us gs : List By) (w : World) (hx : TRd w a0 n0 c0 ts0) (hy : TRd w a1 n1 c1 ts1) (ho : OpR w o us gs) (hT : Lib.Utf8Tabs 0 1 w) :
    Calls Tryd.prog 4 #[.slice a0 n0 c0, .slice a1 n1 c1, .agg (oc o)] w fun e w' => e = .returned (.bool true) ∧ Below w.heap.size w w' := by
  have HA : Hid (TRd w a0 n0 c0 ts0 ∧ TRd w a1 n1 c1 ts1 ∧ OpR w o us gs ∧ Lib.Utf8Tabs 0 1 w) := ⟨hx, hy, ho, hT⟩
  clear hx hy ho hT
  have HB0 : Hid ((w.alloc (.cells (oc o) 39)).heap[w.heap.size]? = some (.cells (oc o) 39 (0, 0)) ∧ Below w.heap.size w (w.alloc (.cells (oc o) 39)) ∧ (w.alloc (.cells (oc o) 39)).heap.size = w.heap.size + 1) := ⟨push_at _ _ rfl, below1 _ _, by simp⟩
  unfold oc at HB0
  unfold oc
  go_enter Tryd.func4, Tryd.ntmps4
  go_upto_region 1 with fail
  obtain ⟨B, HBz⟩ : ∃ B, Hid (w.heap.size = B) := ⟨_, rfl⟩
  generalize w.alloc _ = Y1 at HB0 ⊢
  rw [HBz.out] at HB0 ⊢
  have cN := new_ok 3 100 Y1 (by decide) (by decide)
  obtain ⟨q, Hq⟩ : ∃ q, Hid (Y1.heap.size + 1 = q) := ⟨_, rfl⟩
  rw [Hq.out] at cN
  go_upto_region 2 with (go_at_call 13; refine cN.mono ?_; clear cN; rintro e w1 ⟨rfl, h1, hb1⟩)
  have S1 : Hid (St B w w1 q (pl0 3 100) (fun i => i = B) ∧ w1.heap[B]? = some (.cells (oc o) 39 (0, 0))) := ⟨St.new (by rw [← HBz.out] at HB0 ⊢; exact HB0.out.2.1) (by rw [HB0.out.2.2]; omega) (fun i hi => by rw [HB0.out.2.2]; omega) h1 (fun i hi => by have := Hq.out; omega) hb1, box_below HB0.out.1 hb1⟩
  clear h1 hb1 HB0
  have hTw : Hid (∀ W, Below B w W → Lib.Utf8Tabs 0 1 W) := fun W hb => tabs_bel HA.out.2.2.2 (by rw [HBz.out]; exact hb)
  have cW := wakes_any w1 (hTw.out w1 S1.out.1.bl)
  go_upto_region 4 with (go_at_call 12; refine cW.mono ?_; clear cW; rintro e w2 ⟨rfl, hb2⟩)
  have S2 : Hid (St B w w2 q (pl0 3 100) (fun i => i = B) ∧ w2.heap[B]? = some (.cells (oc o) 39 (0, 0))) := ⟨S1.out.1.below hb2, box_below S1.out.2 hb2⟩
  clear S1 hb2
  have cT := texts_any a0 n0 c0 ts0 20 120 w2 (HA.out.1.below (by rw [HBz.out]; exact S2.out.1.bl)) (by omega) (by omega)
  obtain ⟨A, HL⟩ : ∃ A, Hid (cutT ts0 20 120 = A) := ⟨_, rfl⟩
  rw [HL.out] at cT
  go_upto_region 5 with (go_at_call 14; refine cT.mono ?_; clear cT; rintro e w3 ⟨v3, rfl, o3, hb3⟩)
  obtain ⟨la, lcp, hv3, t3⟩ := TRd.ofOwn o3
  subst hv3
  obtain ⟨N, HN⟩ : ∃ N, Hid (A.length = N) := ⟨_, rfl⟩
  have HN20 : Hid (N ≤ 20) := by
    have := cutT_len ts0 20 120
    rw [HL.out, HN.out] at this
    exact this
  rw [HN.out] at t3 o3 ⊢
  have HW4 : Hid ((w3.alloc (.cells #[.string ⟨#[97, 108, 108, 111, 119, 32, 98, 111, 116, 104, 32, 97, 108, 108]⟩, .string ⟨#[100, 101, 110, 121, 32, 98, 111, 116, 104, 32, 97, 108, 108]⟩] 9)).heap[w3.heap.size]? = some (.cells #[.string (ba (lastT 0)), .string (ba (lastT 1))] 9 (0, 0)) ∧ Below w3.heap.size w3 (w3.alloc (.cells #[.string ⟨#[97, 108, 108, 111, 119, 32, 98, 111, 116, 104, 32, 97, 108, 108]⟩, .string ⟨#[100, 101, 110, 121, 32, 98, 111, 116, 104, 32, 97, 108, 108]⟩] 9)) ∧ (w3.alloc (.cells #[.string ⟨#[97, 108, 108, 111, 119, 32, 98, 111, 116, 104, 32, 97, 108, 108]⟩, .string ⟨#[100, 101, 110, 121, 32, 98, 111, 116, 104, 32, 97, 108, 108]⟩] 9)).heap.size = w3.heap.size + 1) := ⟨push_at _ _ rfl, below1 _ _, by simp⟩
  go_upto_region 6 with fail
  generalize w3.alloc _ = w4 at HW4 ⊢
  obtain ⟨gk, Hgk⟩ : ∃ gk, Hid (w3.heap.size = gk) := ⟨_, rfl⟩
  obtain ⟨Z, HZ⟩ : ∃ Z : Nat → Prop, Hid ((fun i => i = B ∨ (w2.heap.size ≤ i ∧ i < w4.heap.size)) = Z) := ⟨_, rfl⟩
  have S4 : Hid (AlS w B o la N lcp A gk q Z (pl0 3 100) w4) := by
    have hb4 := hb3.trans (HW4.out.2.1.mono hb3.size)
    have h1 := S2.out.1.grow hb4
    have h2 := hb3.size
    have h3 := HW4.out.2.2
    have h4 := Hgk.out
    rw [HZ.out] at h1
    refine ⟨h1, box_below S2.out.2 hb4, t3.below HW4.out.2.1, by rw [← h4]; exact HW4.out.1, fun ad had => ?_, ?_, ?_⟩
    · rw [← HZ.out]
      subst had
      rcases o3.2 with ⟨e, _⟩ | ⟨g, cap, cur, e, hg, hh, _⟩
      · cases e
      · cases e
        have := box_lt hh
        exact Or.inr ⟨hg, by show g < w4.heap.size; omega⟩
    · rw [← HZ.out]; exact Or.inl rfl
    · rw [← HZ.out]; exact Or.inr ⟨by omega, by omega⟩
  have hZz : Hid ((∀ ad, la = some ad → Z ad.block) ∧ Z B ∧ Z gk) := ⟨S4.out.lz, S4.out.zo, S4.out.zk⟩
  rw [Hgk.out]
  have hLs : ∀ t ∈ A, t.length ≤ 120 := by rw [← HL.out]; exact cutT_size ts0 20 120
  have hL2 : cutT A 20 120 = A := by rw [← HL.out]; exact cutT_cut ts0 20 120
  obtain ⟨Bh, HBh⟩ : ∃ Bh, Hid (cutT ts1 20 120 = Bh) := ⟨_, rfl⟩
  have hBs : ∀ t ∈ Bh, t.length ≤ 120 := by rw [← HBh.out]; exact cutT_size ts1 20 120
  obtain ⟨M, HM⟩ : ∃ M, Hid (Bh.length = M) := ⟨_, rfl⟩
  have HM20 : Hid (M ≤ 20) := by
    have := cutT_len ts1 20 120
    rw [HBh.out, HM.out] at this
    exact this
  have cT2 : Hid (∀ W P Zz, AlS w B o la N lcp A gk q Zz P W → Calls Tryd.prog 14 #[.slice la N lcp, .int .i64 20, .int .i64 120] W fun e W' => ∃ a c, e = .returned (.slice a N c) ∧ W'.ownsRow W.heap.size 9 1 (.slice a N c) N (tc A) ∧ Below W.heap.size W W') := fun W P Zz h =>
    (texts_any la N lcp A 20 120 W h.l (by omega) (by omega)).mono (fun e W' hh => by
      rw [hL2, HN.out] at hh
      obtain ⟨v, rfl, ho, hb⟩ := hh
      obtain ⟨a, c, rfl, hr⟩ := TRd.ofOwn ho
      exact ⟨a, c, rfl, ho, hb⟩)
  have cTb : Hid (∀ W, Below B w W → Calls Tryd.prog 14 #[.slice a1 n1 c1, .int .i64 20, .int .i64 120] W fun e W' => ∃ a c, e = .returned (.slice a M c) ∧ TRd W' a M c Bh ∧ Below W.heap.size W W') := fun W hb =>
    (texts_any a1 n1 c1 ts1 20 120 W (HA.out.2.1.below (by rw [HBz.out]; exact hb)) (by omega) (by omega)).mono (fun e W' hh => by
      rw [HBh.out, HM.out] at hh
      obtain ⟨v, rfl, ho, hb⟩ := hh
      obtain ⟨a, c, rfl, hr⟩ := TRd.ofOwn ho
      exact ⟨a, c, rfl, hr, hb⟩)
  have cSet : Hid (∀ (s : By) W P Zz a n c (ts : List By), s.length ≤ 1000000 → Pok P → AlS w B o la N lcp A gk q Zz P W → TRd W a n c ts → n ≤ 100 → (∀ t ∈ ts, t.length ≤ 120) → Calls Tryd.prog 15 #[.pointer (some ⟨q, 0, none⟩), .string (ba s), .slice a n c] W fun e W' => e = .returned (.int .i64 ((setR P s ts).1 : Nat)) ∧ Hid (AlS w B o la N lcp A gk q Zz (setR P s ts).2 W' ∧ Keep (Oth B Zz) W W')) := fun s W P Zz a n c ts hs hp h hr hn hts =>
    (st_set h.st s a n c ts hs hr (by omega) (fun t ht => by have := hts t ht; omega) (by have := h.st.keys hp; omega) (hTw.out W h.st.bl)).mono (fun e W' hh => ⟨hh.1, h.turn hh.2.out.1 hh.2.out.2, hh.2.out.2⟩)
  have cAl : Hid (∀ (s : By) (P : Pl) Zz, s.length ≤ 1000000 → P.us = [] → (heldR P s).length ≤ 100 → ∀ W, AlS w B o la N lcp A gk q Zz P W → Calls Tryd.prog 16 #[.pointer (some ⟨q, 0, none⟩), .string (ba s), .bool o.i, .string (ba o.c), .slice o.ga o.gn o.gc, .string (ba o.s)] W fun e W' => e = .returned (.bool (allowsR ⟨o.i, o.c, gs, o.s⟩ (heldR P s))) ∧ Hid (AlS w B o la N lcp A gk q Zz P W' ∧ Below W.heap.size W W')) := fun s P Zz hs hu hl W h =>
    (st_allows h.st s ⟨o.i, o.c, gs, o.s⟩ o.ga o.gn o.gc hs (by rw [hu]; exact Nat.zero_le _) (HA.out.2.2.1.g.below (by rw [HBz.out]; exact h.st.bl)) HA.out.2.2.1.s (by omega)).mono (fun e W' hh => ⟨hh.1, h.below hh.2.out.2, hh.2.out.2⟩)
  replace hLs : Hid _ := hLs
  replace hBs : Hid _ := hBs
  clear hL2 HBh HL S2 hb3 o3 t3 HW4 HZ HA
  go_loopw [11, 12, 13, 14, 15, 34] (fun _ _ _ _ _ s34 wr => ∃ (k : Nat) (P : Pl), s34 = .int .i64 k ∧ k ≤ 2 ∧ Hid (Pok P) ∧ Hid (AlS w B o la N lcp A gk q Z P wr)) (fun _ _ _ _ _ s34 _ => 2 - (intOf s34).toNat)
  case atStart => exact ⟨0, pl0 3 100, rfl, by omega, Pok.start, S4.out⟩
  case round =>
    obtain ⟨k, P, rfl, hk, HP, HS⟩ := hrel
    by_cases hk2 : k < 2
    · have hcl : (k : Int) < 2 := by omega
      have hc : wr.cell? ⟨gk, k, none⟩ = some (.string (ba (lastT k))) := by
        rw [cell_of_block HS.out.kc]
        rcases (by omega : k = 0 ∨ k = 1) with rfl | rfl <;> rfl
      obtain ⟨lt, HLt⟩ : ∃ lt, Hid (lastT k = lt) := ⟨_, rfl⟩
      rw [HLt.out] at hc
      have cTa := cT2.out wr P Z HS.out
      go_upto_region 9 with (first
        | (go_at_call 14; refine cTa.mono ?_; clear cTa; rintro e w5 ⟨a5, c5, rfl, o5, hb5⟩; have hz5 := hb5.size)
        | (at_builtin; refine wp_app1 37 9 _ 1 16 Tryd.underlying37 infoStr1 rfl (by decide) (by decide) rfl (.tmp 39) (.tmp 41) rfl wr.heap.size (.slice a5 N c5) N (tc A) rfl o5 #[.string (ba lt)] rfl (by simp [Value.oneCell']) rfl (by have := HN20.out; omega) hz5 ?_; intro v6 w6 o6 k6 n6))
      have B6 : Hid (Below wr.heap.size wr w6 ∧ wr.heap.size ≤ w6.heap.size) := ⟨hb5.trans (k6.below hz5 (fun g' hg => (o5.lt g' hg).1)), Nat.le_trans hz5 k6.size⟩
      have o6' : w6.ownsRow wr.heap.size 9 1 v6 (N + 1) (tc (A ++ [lt])) := by rw [tc_app]; exact o6
      obtain ⟨a6, c6, hv6, t6⟩ := TRd.ofOwn o6'
      subst hv6
      have S6 : Hid (AlS w B o la N lcp A gk q Z P w6 ∧ TRd w6 a6 (N + 1) c6 (A ++ [lt])) := ⟨HS.out.below B6.out.1, t6⟩
      clear o5 hb5 hz5 o6 k6 n6 o6' t6
      have cTa2 := cT2.out w6 P Z S6.out.1
      have tk1 : True := trivial
      have tk2 : True := trivial
      go_upto_region 10 with (first
        | (go_at_call 14; clear tk1; refine cTa2.mono ?_; clear cTa2; rintro e w7 ⟨a7, c7, rfl, o7, hb7⟩; have hz7 := hb7.size)
        | (at_builtin; clear tk2; refine wp_app1 37 9 _ 1 16 Tryd.underlying37 infoStr1 rfl (by decide) (by decide) rfl (.tmp 44) (.tmp 46) rfl w6.heap.size (.slice a7 N c7) N (tc A) rfl o7 #[.string (ba lt)] rfl (by simp [Value.oneCell']) rfl (by have := HN20.out; omega) hz7 ?_; intro v8 w8 o8 k8 n8; have B8 : Hid (Below w6.heap.size w6 w8 ∧ w6.heap.size ≤ w8.heap.size) := ⟨hb7.trans (k8.below hz7 (fun g' hg => (o7.lt g' hg).1)), Nat.le_trans hz7 k8.size⟩; obtain ⟨a8, c8, hv8⟩ := ownR_sl o8; subst hv8; have o8' : Hid (w8.ownsRow w6.heap.size 9 1 (.slice a8 (N + 1) c8) (N + 1) (tc (A ++ [lt]))) := (by show World.ownsRow _ _ _ _ _ _ _; rw [tc_app]; exact o8); clear o7 hb7 hz7 o8 k8 n8; have cTb2 := cTb.out w8 (S6.out.1.below B8.out.1).st.bl)
        | (go_at_call 14; refine cTb2.mono ?_; clear cTb2; rintro e w9 ⟨a9, c9, rfl, t9, hb9⟩; have o9 := own_keep (S := fun _ => False) o8'.out (Keep.ofBelow hb9) (fun _ _ h => h); have hz9 := Nat.le_trans B8.out.2 hb9.size)
        | (at_builtin; refine wp_appS rfl (.tmp 47) (.tmp 49) rfl w6.heap.size (.slice a8 (N + 1) c8) (N + 1) (A ++ [lt]) rfl o9 a9 M c9 Bh rfl t9 (by have := HN20.out; have := HM20.out; omega) hz9 ?_; intro v10 w10 o10 k10))
      have B10 : Hid (Below w6.heap.size w6 w10 ∧ w6.heap.size ≤ w10.heap.size ∧ ∀ g, v10.ownBlock = some g → w6.heap.size ≤ g ∧ g < w10.heap.size) := ⟨(B8.out.1.trans (hb9.mono B8.out.2)).trans (k10.below hz9 (fun g' hg => (o9.lt g' hg).1)), Nat.le_trans hz9 k10.size, fun g hg => o10.lt g hg⟩
      obtain ⟨a10, c10, hv10, t10⟩ := TRd.ofOwn o10
      subst hv10
      obtain ⟨Z', HZ'⟩ : ∃ Z' : Nat → Prop, Hid ((fun i => Z i ∨ (wr.heap.size ≤ i ∧ i < w10.heap.size)) = Z') := ⟨_, rfl⟩
      have S10 : Hid (AlS w B o la N lcp A gk q Z' P w10 ∧ TRd w10 a6 (N + 1) c6 (A ++ [lt]) ∧ TRd w10 a10 (N + 1 + M) c10 (A ++ [lt] ++ Bh) ∧ ∀ ad, a10 = some ad → Z' ad.block) := by
        have h1 := HS.out.grow (B6.out.1.trans (B10.out.1.mono B6.out.2))
        rw [HZ'.out] at h1
        refine ⟨h1, S6.out.2.below B10.out.1, t10, fun ad had => ?_⟩
        subst had
        rw [← HZ'.out]
        have hob : ∀ g, (Value.slice (some ad) (N + 1 + M) c10).ownBlock = some g → w6.heap.size ≤ g ∧ g < w10.heap.size := B10.out.2.2
        obtain ⟨b, off, sp⟩ := ad
        rcases o10.2 with ⟨e, _⟩ | ⟨g, cap, cur, e, hg, hh, _⟩
        · cases e
        · cases e
          exact Or.inr ⟨Nat.le_trans B6.out.2 hg, box_lt hh⟩
      clear t10 o10 k10 o9 hz9 hb9 t9 o8' B8 S6 B10
      have hX : ∀ t ∈ A ++ [lt], t.length ≤ 120 := fun t ht => by
        rcases List.mem_append.1 ht with z | z
        · exact hLs.out t z
        · have : t = lt := by simpa using z
          rw [this, ← HLt.out]; exact last_len k
      have hY : ∀ t ∈ A ++ [lt] ++ Bh, t.length ≤ 120 := fun t ht => by
        rcases List.mem_append.1 ht with z | z
        · exact hX t z
        · exact hBs.out t z
      have cS1 : Calls Tryd.prog 15 #[.pointer (some ⟨q, 0, none⟩), .string ⟨#[111, 110, 101]⟩, .slice a6 (N + 1) c6] w10 _ := cSet.out wOne w10 P Z' a6 (N + 1) c6 (A ++ [lt]) (by decide) HP.out S10.out.1 S10.out.2.1 (by have := HN20.out; omega) hX
      have cS2 : Hid (∀ W P1, Pok P1 → AlS w B o la N lcp A gk q Z' P1 W → TRd W a10 (N + 1 + M) c10 (A ++ [lt] ++ Bh) → Calls Tryd.prog 15 #[.pointer (some ⟨q, 0, none⟩), .string ⟨#[116, 119, 111]⟩, .slice a10 (N + 1 + M) c10] W fun e W' => e = .returned (.int .i64 ((setR P1 wTwo (A ++ [lt] ++ Bh)).1 : Nat)) ∧ Hid (AlS w B o la N lcp A gk q Z' (setR P1 wTwo (A ++ [lt] ++ Bh)).2 W' ∧ Keep (Oth B Z') W W')) := fun W P1 hp hs ht => cSet.out wTwo W P1 Z' a10 (N + 1 + M) c10 (A ++ [lt] ++ Bh) (by decide) hp hs ht (by have := HN20.out; have := HM20.out; omega) hY
      have hp1 := HP.out.set wOne (Or.inl rfl) (A ++ [lt])
      have hp2 := hp1.set wTwo (Or.inr rfl) (A ++ [lt] ++ Bh)
      have hboth : Hid ((setR P wOne (A ++ [lt])).1 = 0 → (setR (setR P wOne (A ++ [lt])).2 wTwo (A ++ [lt] ++ Bh)).1 = 0 → (allowsR ⟨o.i, o.c, gs, o.s⟩ (heldR (setR (setR P wOne (A ++ [lt])).2 wTwo (A ++ [lt] ++ Bh)).2 wOne) = allowsR ⟨o.i, o.c, gs, o.s⟩ (heldR (setR (setR P wOne (A ++ [lt])).2 wTwo (A ++ [lt] ++ Bh)).2 wTwo)) ∧ (heldR (setR (setR P wOne (A ++ [lt])).2 wTwo (A ++ [lt] ++ Bh)).2 wOne).length ≤ 100 ∧ (heldR (setR (setR P wOne (A ++ [lt])).2 wTwo (A ++ [lt] ++ Bh)).2 wTwo).length ≤ 100) := fun h1 h2 => by
        obtain ⟨r1, e1⟩ := set_zero h1
        obtain ⟨r2, e2⟩ := set_zero h2
        rw [e2, held_put, e1, held_other _ _ _ _ _ (by decide)]
        obtain ⟨x1, x2, x3⟩ := read_app A [lt] r1
        obtain ⟨y1, y2, y3⟩ := read_app (A ++ [lt]) Bh r2
        have hone : (readR [lt]).1 = [lr (decide (k = 0))] := by
          have := last_parse k
          rw [HLt.out] at this
          rw [readR, this]
          rfl
        refine ⟨?_, ?_, ?_⟩
        · rw [y3, x3, hone]
          exact allows_behind _ _ _ _
        · rw [readR_le _ r1, List.length_append, HN.out]; have := HN20.out; show N + 1 ≤ 100; omega
        · rw [readR_le _ r2, List.length_append, List.length_append, HN.out, HM.out]; have := HN20.out; have := HM20.out; show N + 1 + M ≤ 100; omega
      replace hp1 : Hid _ := hp1
      replace hp2 : Hid _ := hp2
      have hweak : Hid (∀ P W, AlS w B o la N lcp A gk q Z' P W → AlS w B o la N lcp A gk q Z P W) := fun P W h => h.weak (fun i hi => by rw [← HZ'.out]; exact Or.inl hi) hZz.out.1 hZz.out.2.1 hZz.out.2.2
      clear hX hY
      generalize hr1 : setR P wOne (A ++ [lt]) = r1 at *
      obtain ⟨en1, P1⟩ := r1
      dsimp only at *
      generalize hr2 : setR P1 wTwo (A ++ [lt] ++ Bh) = r2 at *
      obtain ⟨en2, P2⟩ := r2
      dsimp only at *
      replace hr1 : Hid _ := hr1
      replace hr2 : Hid _ := hr2
      go_upto_region 12 with (first
        | (go_at_call 15; refine cS1.mono ?_; clear cS1; rintro e w11 ⟨rfl, S11⟩; have cS3 := cS2.out w11 P1 hp1.out S11.out.1 (S10.out.2.2.1.keep S11.out.2 (fun ad e hs => hs.2 (S10.out.2.2.2 ad e))); rw [hr2.out] at cS3; clear cS2)
        | (go_at_call 15; refine cS3.mono ?_; clear cS3; rintro e w12 ⟨rfl, S12⟩))
      by_cases he1 : en1 = 0
      · by_cases he2 : en2 = 0
        · obtain ⟨hsame, hle1, hle2⟩ := hboth.out he1 he2
          subst he1
          subst he2
          have cA1 : Hid (∀ W, AlS w B o la N lcp A gk q Z' P2 W → Calls Tryd.prog 16 #[.pointer (some ⟨q, 0, none⟩), .string ⟨#[111, 110, 101]⟩, .bool o.i, .string (ba o.c), .slice o.ga o.gn o.gc, .string (ba o.s)] W fun e W' => e = .returned (.bool (allowsR ⟨o.i, o.c, gs, o.s⟩ (heldR P2 wTwo))) ∧ Hid (AlS w B o la N lcp A gk q Z' P2 W' ∧ Below W.heap.size W W')) := fun W h => by
            have := cAl.out wOne P2 Z' (by decide) hp2.out.us hle1 W h
            rw [hsame] at this
            exact this
          have cA2 : Hid (∀ W, AlS w B o la N lcp A gk q Z' P2 W → Calls Tryd.prog 16 #[.pointer (some ⟨q, 0, none⟩), .string ⟨#[116, 119, 111]⟩, .bool o.i, .string (ba o.c), .slice o.ga o.gn o.gc, .string (ba o.s)] W fun e W' => e = .returned (.bool (allowsR ⟨o.i, o.c, gs, o.s⟩ (heldR P2 wTwo))) ∧ Hid (AlS w B o la N lcp A gk q Z' P2 W' ∧ Below W.heap.size W W')) := fun W h => cAl.out wTwo P2 Z' (by decide) hp2.out.us hle2 W h
          clear hsame hle1 hle2 hboth cAl cT2 cTb cSet hTw
          generalize allowsR ⟨o.i, o.c, gs, o.s⟩ (heldR P2 wTwo) = R at *
          go_upto_region 13 with fail
          have S13 : Hid (AlS w B o la N lcp A gk q Z' P2 w12.drew) := S12.out.1.below (Below.refl _ _).drew
          clear S12 S11 S10
          refine wp_region_lx (fun w' => AlS w B o la N lcp A gk q Z' P2 w') [] 21 (by kernel_rfl) (by kernel_rfl) ?_
          generalize w12.drew = X8 at S13 ⊢
          have HS8 := S13.out
          refine lx_rd 0 (.pointer (some ⟨q, 0, none⟩)) (by kernel_rfl) (fun _ _ d _ _ h => by cases d <;> exact h) (by kernel_rfl) HS8 rfl rfl rfl (fun w' hS => ?hA0) ?_
          case hA0 => first | (go_simp; rfl) | go_simp
          simp only [List.setIfInBounds_toArray, List.set_cons_zero, List.set_cons_succ]
          refine lx_rd 1 (.pointer (some ⟨B, 3, none⟩)) (by kernel_rfl) (fun _ _ d _ _ h => by cases d <;> exact h) (by kernel_rfl) HS8 rfl rfl rfl (fun w' hS => ?hA1) ?_
          case hA1 => first | (go_simp; rfl) | go_simp
          simp only [List.setIfInBounds_toArray, List.set_cons_zero, List.set_cons_succ]
          refine lx_rd 2 (.bool o.i) (by kernel_rfl) (fun _ _ d _ _ h => by cases d <;> exact h) (by kernel_rfl) HS8 rfl rfl rfl (fun w' hS => ?hA2) ?_
          case hA2 => have q0 := hS.c3; first | (go_simp; rfl) | go_simp
          simp only [List.setIfInBounds_toArray, List.set_cons_zero, List.set_cons_succ]
          refine lx_rd 3 (.pointer (some ⟨B, 4, none⟩)) (by kernel_rfl) (fun _ _ d _ _ h => by cases d <;> exact h) (by kernel_rfl) HS8 rfl rfl rfl (fun w' hS => ?hA3) ?_
          case hA3 => first | (go_simp; rfl) | go_simp
          simp only [List.setIfInBounds_toArray, List.set_cons_zero, List.set_cons_succ]
          refine lx_rd 4 (.string (ba o.c)) (by kernel_rfl) (fun _ _ d _ _ h => by cases d <;> exact h) (by kernel_rfl) HS8 rfl rfl rfl (fun w' hS => ?hA4) ?_
          case hA4 => have q0 := hS.c4; first | (go_simp; rfl) | go_simp
          simp only [List.setIfInBounds_toArray, List.set_cons_zero, List.set_cons_succ]
          refine lx_rd 5 (.pointer (some ⟨B, 5, none⟩)) (by kernel_rfl) (fun _ _ d _ _ h => by cases d <;> exact h) (by kernel_rfl) HS8 rfl rfl rfl (fun w' hS => ?hA5) ?_
          case hA5 => first | (go_simp; rfl) | go_simp
          simp only [List.setIfInBounds_toArray, List.set_cons_zero, List.set_cons_succ]
          refine lx_rd 6 (.slice o.ga o.gn o.gc) (by kernel_rfl) (fun _ _ d _ _ h => by cases d <;> exact h) (by kernel_rfl) HS8 rfl rfl rfl (fun w' hS => ?hA6) ?_
          case hA6 => have q0 := hS.c5; first | (go_simp; rfl) | go_simp
          simp only [List.setIfInBounds_toArray, List.set_cons_zero, List.set_cons_succ]
          refine lx_rd 7 (.pointer (some ⟨B, 6, none⟩)) (by kernel_rfl) (fun _ _ d _ _ h => by cases d <;> exact h) (by kernel_rfl) HS8 rfl rfl rfl (fun w' hS => ?hA7) ?_
          case hA7 => first | (go_simp; rfl) | go_simp
          simp only [List.setIfInBounds_toArray, List.set_cons_zero, List.set_cons_succ]
          refine lx_rd 8 (.string (ba o.s)) (by kernel_rfl) (fun _ _ d _ _ h => by cases d <;> exact h) (by kernel_rfl) HS8 rfl rfl rfl (fun w' hS => ?hA8) ?_
          case hA8 => have q0 := hS.c6; first | (go_simp; rfl) | go_simp
          simp only [List.setIfInBounds_toArray, List.set_cons_zero, List.set_cons_succ]
          refine lx_rd 10 (.pointer (some ⟨q, 0, none⟩)) (by kernel_rfl) (fun _ _ d _ _ h => by cases d <;> exact h) (by kernel_rfl) HS8 rfl rfl rfl (fun w' hS => ?hA10) ?_
          case hA10 => first | (go_simp; rfl) | go_simp
          simp only [List.setIfInBounds_toArray, List.set_cons_zero, List.set_cons_succ]
          refine lx_rd 11 (.pointer (some ⟨B, 3, none⟩)) (by kernel_rfl) (fun _ _ d _ _ h => by cases d <;> exact h) (by kernel_rfl) HS8 rfl rfl rfl (fun w' hS => ?hA11) ?_
          case hA11 => first | (go_simp; rfl) | go_simp
          simp only [List.setIfInBounds_toArray, List.set_cons_zero, List.set_cons_succ]
          refine lx_rd 12 (.bool o.i) (by kernel_rfl) (fun _ _ d _ _ h => by cases d <;> exact h) (by kernel_rfl) HS8 rfl rfl rfl (fun w' hS => ?hA12) ?_
          case hA12 => have q0 := hS.c3; first | (go_simp; rfl) | go_simp
          simp only [List.setIfInBounds_toArray, List.set_cons_zero, List.set_cons_succ]
          refine lx_rd 13 (.pointer (some ⟨B, 4, none⟩)) (by kernel_rfl) (fun _ _ d _ _ h => by cases d <;> exact h) (by kernel_rfl) HS8 rfl rfl rfl (fun w' hS => ?hA13) ?_
          case hA13 => first | (go_simp; rfl) | go_simp
          simp only [List.setIfInBounds_toArray, List.set_cons_zero, List.set_cons_succ]
          refine lx_rd 14 (.string (ba o.c)) (by kernel_rfl) (fun _ _ d _ _ h => by cases d <;> exact h) (by kernel_rfl) HS8 rfl rfl rfl (fun w' hS => ?hA14) ?_
          case hA14 => have q0 := hS.c4; first | (go_simp; rfl) | go_simp
          simp only [List.setIfInBounds_toArray, List.set_cons_zero, List.set_cons_succ]
          refine lx_rd 15 (.pointer (some ⟨B, 5, none⟩)) (by kernel_rfl) (fun _ _ d _ _ h => by cases d <;> exact h) (by kernel_rfl) HS8 rfl rfl rfl (fun w' hS => ?hA15) ?_
          case hA15 => first | (go_simp; rfl) | go_simp
          simp only [List.setIfInBounds_toArray, List.set_cons_zero, List.set_cons_succ]
          refine lx_rd 16 (.slice o.ga o.gn o.gc) (by kernel_rfl) (fun _ _ d _ _ h => by cases d <;> exact h) (by kernel_rfl) HS8 rfl rfl rfl (fun w' hS => ?hA16) ?_
          case hA16 => have q0 := hS.c5; first | (go_simp; rfl) | go_simp
          simp only [List.setIfInBounds_toArray, List.set_cons_zero, List.set_cons_succ]
          refine lx_rd 17 (.pointer (some ⟨B, 6, none⟩)) (by kernel_rfl) (fun _ _ d _ _ h => by cases d <;> exact h) (by kernel_rfl) HS8 rfl rfl rfl (fun w' hS => ?hA17) ?_
          case hA17 => first | (go_simp; rfl) | go_simp
          simp only [List.setIfInBounds_toArray, List.set_cons_zero, List.set_cons_succ]
          refine lx_rd 18 (.string (ba o.s)) (by kernel_rfl) (fun _ _ d _ _ h => by cases d <;> exact h) (by kernel_rfl) HS8 rfl rfl rfl (fun w' hS => ?hA18) ?_
          case hA18 => have q0 := hS.c6; first | (go_simp; rfl) | go_simp
          simp only [List.setIfInBounds_toArray, List.set_cons_zero, List.set_cons_succ]
          refine lx_one 9 (by kernel_rfl) (stepT_call 16 ?ac rfl rfl rfl ?rc ?_)
          case rc => first | (go_simp; rfl) | go_simp
          refine (cA1.out X8 HS8).mono ?_
          rintro e X9 ⟨rfl, S9⟩
          have HS9 := S9.out.1
          refine ⟨_, rfl, fun _ => HS9, ?_⟩
          simp only [lxa, lxb, lxc]
          refine lx_one 19 (by kernel_rfl) (stepT_call 16 ?ad rfl rfl rfl ?rd ?_)
          case rd => first | (go_simp; rfl) | go_simp
          refine (cA2.out X9 HS9).mono ?_
          rintro e Xa ⟨rfl, Sa⟩
          have HSa := Sa.out.1
          refine ⟨_, rfl, fun _ => HSa, ?_⟩
          simp only [lxa, lxb, lxc]
          refine lx_rd 20 (.bool false) (by kernel_rfl) (fun _ _ d _ _ h => by cases d <;> exact h) (by kernel_rfl) HSa rfl rfl rfl (fun w' hS => ?hC20) ?_
          case hC20 => first | (go_simp; rfl) | go_simp
          simp only [List.setIfInBounds_toArray, List.set_cons_zero, List.set_cons_succ]
          refine lx_nil (by kernel_rfl) ?_
          clear HS8 HS9 HSa cA1 cA2 S13 S9
          go_wp2
          go_roundw
          case rel => exact ⟨k + 1, P2, by go_num, by omega, hp2, hweak.out P2 _ Sa.out.1⟩
          case measure => simp [intOf]; omega
        · have hd1 : ((en2 : Int) != 0) = true := by simp; omega
          subst he1
          clear hboth cAl cT2 cTb cSet hTw S11 S10 he2
          go_wp2
          go_roundw
          case rel => exact ⟨k + 1, P2, by go_num, by omega, hp2, hweak.out P2 _ S12.out.1⟩
          case measure => simp [intOf]; omega
      · have hd1 : ((en1 : Int) != 0) = true := by simp; omega
        clear hboth cAl cT2 cTb cSet hTw S11 S10 he1
        go_wp2
        go_roundw
        case rel => exact ⟨k + 1, P2, by go_num, by omega, hp2, hweak.out P2 _ S12.out.1⟩
        case measure => simp [intOf]; omega
    · have hcl : ¬ (k : Int) < 2 := by omega
      have cS : Calls Tryd.prog 15 #[.pointer (some ⟨q, 0, none⟩), .string ⟨#[110, 111, 110, 101]⟩, .slice none 0 0] wr fun e W' => e = .returned (.int .i64 0) ∧ Hid (AlS w B o la N lcp A gk q Z (putP P wNone []) W') := by
        have := cSet.out wNone wr P Z none 0 0 [] (by decide) HP.out HS.out (TRd.nil wr) (by omega) (fun t ht => by simp at ht)
        rw [all_none HP.out (HS.out.st.keys HP.out)] at this
        exact this.mono (fun e W' hh => ⟨hh.1, hh.2.out.1⟩)
      have cA : Hid (∀ W, AlS w B o la N lcp A gk q Z (putP P wNone []) W → Calls Tryd.prog 16 #[.pointer (some ⟨q, 0, none⟩), .string ⟨#[110, 111, 110, 101]⟩, .bool o.i, .string (ba o.c), .slice o.ga o.gn o.gc, .string (ba o.s)] W fun e W' => e = .returned (.bool true) ∧ Hid (Below w.heap.size w W')) := fun W h => by
        have := cAl.out wNone (putP P wNone []) Z (by decide) HP.out.us (by rw [held_put]; exact Nat.zero_le _) W h
        rw [held_put] at this
        exact this.mono (fun e W' hh => ⟨hh.1, by show Below _ _ _; rw [HBz.out]; exact hh.2.out.1.st.bl⟩)
      clear cAl cT2 cTb cSet hTw
      go_wp2_with (first
        | (go_at_call 15; refine cS.mono ?_; clear cS; rintro e w9 ⟨rfl, SA⟩; have p3 := SA.out.c3; have p4 := SA.out.c4; have p5 := SA.out.c5; have p6 := SA.out.c6; have cA9 := cA.out w9 SA.out; clear cA)
        | (go_at_call 16; refine cA9.mono ?_; clear cA9; rintro e w10 ⟨rfl, hbX⟩))
      go_ret
      exact ⟨rfl, hbX.out⟩
end Go.Proofs.YtiplalbicibahaaDoor
