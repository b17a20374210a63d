/- privacy: Lists beside a law's own things. -/
import Derived.Test.YtiplalbicibahaaDoorPvL
import Derived.Laws.AppendOwnNone
set_option maxRecDepth 100000
namespace Go.Proofs.YtiplalbicibahaaDoor
open Go.RowKit Go.Joins Go.Shelf

/-- Lists at q, all in blocks from B on that are none of Z's. -/
structure St (B : Nat) (w0 w : World) (q : Nat) (P : Pl) (Z : Nat → Prop) : Prop where
  ex : ∃ F, LsAt w F q P ∧ ∀ i, F i → B ≤ i ∧ ¬ Z i
  bl : Below B w0 w
  sz : B ≤ w.heap.size
  zl : ∀ i, Z i → i < w.heap.size
/-- What a call may turn. -/
def Oth (B : Nat) (Z : Nat → Prop) : Nat → Prop := fun i => B ≤ i ∧ ¬ Z i
section
variable {B : Nat} {w0 w w' : World} {q : Nat} {P P' : Pl} {Z : Nat → Prop}
theorem St.new (hb : Below B w0 w) (hB : B ≤ w.heap.size) (hz : ∀ i, Z i → i < w.heap.size) {F : Nat → Prop} (hL : LsAt w' F q P) (hF : ∀ i, F i → w.heap.size ≤ i) (hb' : Below w.heap.size w w') : St B w0 w' q P Z :=
  ⟨⟨F, hL, fun i hi => ⟨Nat.le_trans hB (hF i hi), fun z => by have := hz i z; have := hF i hi; omega⟩⟩, hb.trans (hb'.mono hB), Nat.le_trans hB hb'.size, fun i hi => Nat.lt_of_lt_of_le (hz i hi) hb'.size⟩
theorem St.below (h : St B w0 w q P Z) (hb : Below w.heap.size w w') : St B w0 w' q P Z := by
  obtain ⟨F, hL, hF⟩ := h.ex
  exact ⟨⟨F, hL.below hb, hF⟩, h.bl.trans (hb.mono h.sz), Nat.le_trans h.sz hb.size, fun i hi => Nat.lt_of_lt_of_le (h.zl i hi) hb.size⟩
/-- What was made since is the law's own. -/
theorem St.grow (h : St B w0 w q P Z) (hb : Below w.heap.size w w') : St B w0 w' q P (fun i => Z i ∨ (w.heap.size ≤ i ∧ i < w'.heap.size)) := by
  obtain ⟨F, hL, hF⟩ := h.ex
  exact ⟨⟨F, hL.below hb, fun i hi => ⟨(hF i hi).1, fun z => z.elim (hF i hi).2 (fun z => by have := hL.lt i hi; omega)⟩⟩, h.bl.trans (hb.mono h.sz), Nat.le_trans h.sz hb.size, fun i hi => hi.elim (fun z => Nat.lt_of_lt_of_le (h.zl i z) hb.size) (fun z => z.2)⟩
/-- The law writes to what is its own. -/
theorem St.own {S : Nat → Prop} (h : St B w0 w q P Z) (hk : Keep S w w') (hS : ∀ i, S i → Z i ∧ B ≤ i) : St B w0 w' q P Z := by
  obtain ⟨F, hL, hF⟩ := h.ex
  exact ⟨⟨F, hL.keep hk (fun i hi hs => (hF i hi).2 (hS i hs).1), hF⟩, h.bl.trans (hk.below h.sz (fun i hi => (hS i hi).2)), Nat.le_trans h.sz hk.size, fun i hi => Nat.lt_of_lt_of_le (h.zl i hi) hk.size⟩
theorem St.lq (h : St B w0 w q P Z) {F : Nat → Prop} (hF : ∀ i, F i → B ≤ i ∧ ¬ Z i) (hq : Lq w F q P' w') : St B w0 w' q P' Z ∧ Keep (Oth B Z) w w' := by
  obtain ⟨F', hL', hk, hn⟩ := hq
  have hk' : Keep (Oth B Z) w w' := hk.mono hF
  refine ⟨⟨⟨F', hL', fun i hi => ?_⟩, h.bl.trans (hk'.below h.sz (fun i hi => hi.1)), Nat.le_trans h.sz hk.size, fun i hi => Nat.lt_of_lt_of_le (h.zl i hi) hk.size⟩, hk'⟩
  rcases hn i hi with z | z
  · exact hF i z
  · exact ⟨Nat.le_trans h.sz z, fun y => by have := h.zl i y; omega⟩
end
theorem TRd.keep {S : Nat → Prop} {w w' : World} {a : Option Addr} {n c : Nat} {ts : List By} (h : TRd w a n c ts) (hk : Keep S w w') (hs : ∀ ad, a = some ad → ¬ S ad.block) : TRd w' a n c ts := by
  refine ⟨h.len, h.cap, h.most, fun h0 => ?_, h.nil0⟩
  obtain ⟨b, off, e, hc⟩ := h.flat h0
  exact ⟨b, off, e, fun j hj => hk.cell (p := ⟨b, off + j, none⟩) (hc j hj) (hs ⟨b, off, none⟩ e)⟩
theorem st_set {B : Nat} {w0 w : World} {q : Nat} {P : Pl} {Z : Nat → Prop} (h : St B w0 w q P Z) (s : By) (a : Option Addr) (n c : Nat) (ts : List By) (hs : s.length ≤ 1000000) (hR : TRd w a n c ts) (hn : n ≤ 100000) (hts : ∀ t ∈ ts, t.length ≤ 2000000) (hk : P.ks.length < 900000) (hT : Lib.Utf8Tabs 0 1 w) :
    Calls Tryd.prog 15 #[.pointer (some ⟨q, 0, none⟩), .string (ba s), .slice a n c] w fun e w' => e = .returned (.int .i64 ((setR P s ts).1 : Nat)) ∧ Hid (St B w0 w' q (setR P s ts).2 Z ∧ Keep (Oth B Z) w w') := by
  obtain ⟨F, hL, hF⟩ := h.ex
  exact (set_any s a n c ts w F q P hL hs hR hn hts hk hT).mono (fun e w' hh => ⟨hh.1, h.lq hF hh.2⟩)
theorem st_allows {B : Nat} {w0 w : World} {q : Nat} {P : Pl} {Z : Nat → Prop} (h : St B w0 w q P Z) (s : By) (y : Qy) (a : Option Addr) (n c : Nat) (hs : s.length ≤ 1000000) (hu : P.us.length ≤ 1000000) (hR : TRd w a n c y.gs) (hsb : y.s.length ≤ 9223372036854775807) (hl : (heldR P s).length ≤ 100000) :
    Calls Tryd.prog 16 #[.pointer (some ⟨q, 0, none⟩), .string (ba s), .bool y.i, .string (ba y.c), .slice a n c, .string (ba y.s)] w fun e w' => e = .returned (.bool (allowsR y (heldR P s))) ∧ Hid (St B w0 w' q P Z ∧ Below w.heap.size w w') := by
  obtain ⟨F, hL, hF⟩ := h.ex
  exact (allows_any s y a n c w F q P hL hs hu hR hsb hl).mono (fun e w' hh => ⟨hh.1, h.below hh.2, hh.2⟩)

/-! ### rows of the law's own -/
theorem own_built (w : World) (vs : Array Value) (e : TypeId) (hv : vs.size ≤ 1000000) : (w.alloc (.cells vs e)).ownsRow w.heap.size e 1 (.slice (some ⟨w.heap.size, 0, none⟩) vs.size vs.size) vs.size vs.toList := by
  refine ⟨by simp, Or.inr ⟨w.heap.size, vs.size, vs, rfl, Nat.le_refl _, alloc_at w _, Nat.le_refl _, by unfold maxLen; omega, by omega, ?_⟩⟩
  rw [List.take_of_length_le (by simp)]
/-- 'append(s, x...)' of texts, s the call's own, x whatever slice of texts. -/
theorem wp_appS {w : World} {ops : Array Oper} {rest : List Oper} {o : Oper} {a : Act} {Q : Exit → Act → World → Prop} (hgd : o.guard = none) (s x : Operand)
    (ho : o.op = .call { callee := .builtin .append, args := #[s, x], argTypes := #[37, 37] })
    (base : Nat) (v : Value) (n : Nat) (xs : List By) (hs : a.eval s = v) (hown : w.ownsRow base 9 1 v n (tc xs))
    (ao : Option Addr) (m c : Nat) (ys : List By) (hx : a.eval x = .slice ao m c) (hr : TRd w ao m c ys) (hb : n + m ≤ 1000000) (hbase : base ≤ w.heap.size)
    (h : ∀ v' w', w'.ownsRow base 9 1 v' (n + m) (tc (xs ++ ys)) → Keep (fun k => v.ownBlock = some k) w w' → wpList Tryd.prog ops Q rest (a.put o.dst v') w') : wpList Tryd.prog ops Q (o :: rest) a w := by
  obtain ⟨i0, hi, hz0, hz1, hz2⟩ := info_parts infoStr1
  by_cases h0 : 0 < m
  · obtain ⟨b, off, rfl, hc⟩ := hr.flat h0
    refine wpList_append_own w hgd s x 37 ho base 9 i0 (.string ByteArray.empty) 1 16 Tryd.underlying37 hi hz0 hz1 hz2 rfl (by decide) v n (tc xs) hs hown ⟨b, off, none⟩ m c (tc ys) hx (by rw [tc_len, hr.len]; omega) (fun j u hu => ?_) (by intro u hu; obtain ⟨t, _, rfl⟩ := List.mem_map.1 hu; rfl) (by unfold maxLen; omega) (by omega) hbase ?_
    · have hj : j < ys.length := by
        have := (List.getElem?_eq_some_iff.1 hu).1
        rwa [tc_len] at this
      rw [add_flat, hc j (by rw [← hr.len]; exact hj)]
      simp [tc, List.getElem?_eq_getElem hj] at hu
      simp [List.getD, List.getElem?_eq_getElem hj, hu]
    · intro v' w' k1 k2 k3
      exact h v' w' (by rw [tc_app]; exact k1) (Keep.ofGrown k2)
  · have hm : m = 0 := by omega
    subst hm
    have hys : ys = [] := List.eq_nil_of_length_eq_zero hr.len
    subst hys
    have h' := h v w (by simpa using hown) (Keep.refl _ _)
    cases ao with
    | none =>
      have hc0 := hr.nil0 rfl
      subst hc0
      exact wpList_append_own_none hgd s x 37 ho base 9 i0 1 Tryd.underlying37 hi v n (tc xs) hs hown hx h'
    | some ad =>
      refine wpList_append_own w hgd s x 37 ho base 9 i0 (.string ByteArray.empty) 1 16 Tryd.underlying37 hi hz0 hz1 hz2 rfl (by decide) v n (tc xs) hs hown ad 0 c [] hx rfl (fun j u hu => by simp at hu) (by simp) (by unfold maxLen; omega) (by omega) hbase ?_
      intro v' w' k1 k2 k3
      exact h v' w' (by simpa using k1) (Keep.ofGrown k2)
end Go.Proofs.YtiplalbicibahaaDoor
