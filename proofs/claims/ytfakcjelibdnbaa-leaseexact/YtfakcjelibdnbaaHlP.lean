/- lease: what is due in steps; two heaps side by side; texts appended to texts. -/
import Derived.Test.YtfakcjelibdnbaaHlN
import Derived.Laws.AppendOwnNone
namespace Go.Proofs.Ytfakcjelibdnbaa
open Go.RowKit Go.Joins

theorem fle_trans {x y z : Nat} (h : fle x y = true) (k : fle y z = true) : fle x z = true := by
  unfold fle at *
  simp at *
  exact ⟨⟨h.1.1, k.1.2⟩, by omega⟩
theorem fle_num {x y : Nat} (h : fle x y = true) : Fl.nan x = false ∧ Fl.nan y = false := by
  unfold fle at h
  simp at h
  exact h.1
theorem fle_inf {x : Nat} (h : Fl.nan x = false) : fle x Fl.inf = true := by
  unfold fle
  rw [h, nan_inf]
  have e : Fl.sr Fl.inf = 9218868437227405312 := by decide
  rw [e]
  have hi : Fl.inf = 9218868437227405312 := rfl
  unfold Fl.nan at h
  have hr : Fl.rung x ≤ Fl.inf := by simpa using h
  unfold Fl.sr
  simp
  split <;> omega

/-- Due, and due again at that time or later. -/
theorem due_chain : ∀ (m : Nat) (L : Le), L.length ≤ m → Nk L → ∀ {f g : Nat}, fle f g = true → due L g = ((due L f).1 ++ (due (due L f).2 g).1, (due (due L f).2 g).2)
  | 0, L, hm, _, f, g, _ => by
    have : L = [] := List.length_eq_zero_iff.1 (by omega)
    subst this
    rfl
  | m + 1, L, hm, hn, f, g, hfg => by
    cases hr : fstL L with
    | none => rw [due_none hr f]; rfl
    | some p =>
      cases hp : fle p.2 f with
      | false => rw [due_late hr hp]; rfl
      | true =>
        have hl := drp_len hn (fstL_mem hr)
        have ih := due_chain m (drp L p.1) (by omega) (hn.drp _) hfg
        rw [due_take hn hr (fle_trans hp hfg), due_take hn hr hp, ih]
        rfl
/-- What is left stays, and is not due again. -/
theorem due_facts : ∀ (m : Nat) (L : Le), L.length ≤ m → Nk L → ∀ f : Nat, Nk (due L f).2 ∧ (∀ p ∈ (due L f).2, p ∈ L) ∧ (∀ k ∈ (due L f).1, (∃ e, (k, e) ∈ L) ∧ ∀ p ∈ (due L f).2, p.1 ≠ k) ∧ due (due L f).2 f = ([], (due L f).2) ∧ (due L f).1.length + (due L f).2.length = L.length
  | 0, L, hm, _, f => by
    have : L = [] := List.length_eq_zero_iff.1 (by omega)
    subst this
    exact ⟨List.nodup_nil, fun p hp => hp, fun k hk => (by cases hk), rfl, rfl⟩
  | m + 1, L, hm, hn, f => by
    cases hr : fstL L with
    | none =>
      rw [due_none hr f]
      exact ⟨hn, fun p hp => hp, fun k hk => (by cases hk), due_none hr f, by simp⟩
    | some p =>
      cases hp : fle p.2 f with
      | false =>
        rw [due_late hr hp]
        exact ⟨hn, fun p hp => hp, fun k hk => (by cases hk), due_late hr hp, by simp⟩
      | true =>
        have hl := drp_len hn (fstL_mem hr)
        obtain ⟨i1, i2, i3, i4, i5⟩ := due_facts m (drp L p.1) (by omega) (hn.drp _) f
        rw [due_take hn hr hp]
        refine ⟨i1, fun r hr2 => (drp_keys.1 (i2 r hr2)).1, fun k hk => ?_, i4, ?_⟩
        · rcases List.mem_cons.1 hk with rfl | hk
          · exact ⟨⟨p.2, fstL_mem hr⟩, fun r hr2 => (drp_keys.1 (i2 r hr2)).2⟩
          · obtain ⟨⟨e, he⟩, h2⟩ := i3 k hk
            exact ⟨⟨e, (drp_keys.1 he).1⟩, h2⟩
        · simp only [List.length_cons]; omega
/-- At the end of times all is due. -/
theorem due_all : ∀ (m : Nat) (L : Le), L.length ≤ m → Nk L → (∀ p ∈ L, Fl.nan p.2 = false) → (due L Fl.inf).2 = []
  | 0, L, hm, _, _ => by
    have : L = [] := List.length_eq_zero_iff.1 (by omega)
    subst this
    rfl
  | m + 1, L, hm, hn, hN => by
    cases hr : fstL L with
    | none => rw [due_none hr, fstL_none hr]
    | some p =>
      have hl := drp_len hn (fstL_mem hr)
      rw [due_take hn hr (fle_inf (hN p (fstL_mem hr)))]
      exact due_all m (drp L p.1) (by omega) (hn.drp _) (fun r hr2 => hN r (drp_keys.1 hr2).1)

/-! ### Two heaps side by side -/
structure Duo (w0 : World) (qa qb ta tb : Nat) (La Lb : Le) (Fa Fb : Nat → Prop) (w : World) : Prop where
  ha : HAt w Fa qa ta La
  hb : HAt w Fb qb tb Lb
  ap : ∀ k, Fa k → ¬ Fb k
  na : ∀ k, Fa k → w0.heap.size ≤ k
  nb : ∀ k, Fb k → w0.heap.size ≤ k
  bl : Below w0.heap.size w0 w
section
variable {w0 w w' : World} {qa qb ta tb : Nat} {La Lb : Le} {Fa Fb : Nat → Prop}
theorem Duo.below (h : Duo w0 qa qb ta tb La Lb Fa Fb w) (hb : Below w.heap.size w w') : Duo w0 qa qb ta tb La Lb Fa Fb w' :=
  ⟨h.ha.below hb, h.hb.below hb, h.ap, h.na, h.nb, h.bl.trans (hb.mono h.bl.size)⟩
theorem Duo.keep {S : Nat → Prop} (h : Duo w0 qa qb ta tb La Lb Fa Fb w) (hk : Keep S w w') (h1 : ∀ k, Fa k → ¬ S k) (h2 : ∀ k, Fb k → ¬ S k) (h3 : ∀ k, S k → w0.heap.size ≤ k) : Duo w0 qa qb ta tb La Lb Fa Fb w' :=
  ⟨h.ha.keep hk h1, h.hb.keep hk h2, h.ap, h.na, h.nb, h.bl.trans (hk.below h.bl.size h3)⟩
theorem Duo.left {t' : Nat} {L' : Le} (h : Duo w0 qa qb ta tb La Lb Fa Fb w) (hd : Dn w w' Fa qa t' L') : ∃ Fa', Duo w0 qa qb t' tb L' Lb Fa' Fb w' ∧ (∀ k, Fa' k → Fa k ∨ w.heap.size ≤ k) := by
  obtain ⟨F', h1, h2, h3⟩ := hd
  refine ⟨F', ⟨h1, h.hb.keep h3 (fun k hb ha => h.ap k ha hb), fun k hk hb => ?_, fun k hk => ?_, h.nb, h.bl.trans (h3.below h.bl.size h.na)⟩, h2⟩
  · rcases h2 k hk with g | g
    · exact h.ap k g hb
    · have := h.hb.lt hb; omega
  · rcases h2 k hk with g | g
    · exact h.na k g
    · exact Nat.le_trans h.bl.size g
theorem Duo.swap (h : Duo w0 qa qb ta tb La Lb Fa Fb w) : Duo w0 qb qa tb ta Lb La Fb Fa w := ⟨h.hb, h.ha, fun k hb ha => h.ap k ha hb, h.nb, h.na, h.bl⟩
theorem Duo.right {t' : Nat} {L' : Le} (h : Duo w0 qa qb ta tb La Lb Fa Fb w) (hd : Dn w w' Fb qb t' L') : ∃ Fb', Duo w0 qa qb ta t' La L' Fa Fb' w' ∧ (∀ k, Fb' k → Fb k ∨ w.heap.size ≤ k) := by
  obtain ⟨F', h1, h2⟩ := h.swap.left hd
  exact ⟨F', h1.swap, h2⟩
end
theorem Duo.new {w0 w1 w2 : World} {qa qb : Nat} {Fa Fb : Nat → Prop} (h1 : Nw w0 w1 Fa qa 0 []) (h2 : Nw w1 w2 Fb qb 0 []) : Duo w0 qa qb 0 0 [] [] Fa Fb w2 :=
  ⟨h1.at'.below h2.kp, h2.at', fun k ha hb => by have := h1.at'.lt ha; have := h2.nw k hb; omega, h1.nw, fun k hb => Nat.le_trans h1.kp.size (h2.nw k hb), h1.kp.trans (h2.kp.mono h1.kp.size)⟩

/-! ### Texts behind texts -/
theorem SRd.keep {S : Nat → Prop} {w w' : World} {a : Option Addr} {n c : Nat} {ss : List ByteArray} (h : SRd w a n c ss) (hk : Keep S w w') (hs : ∀ ad, a = some ad → ¬ S ad.block) : SRd w' a n c ss :=
  ⟨h.len, h.cap, h.most, h.nil, fun ad ha j hj => by
    have hc := h.cells ad ha j hj
    exact hk.cell hc (by
      have : (ad.add j).block = ad.block := by unfold Addr.add; split <;> rfl
      rw [this]; exact hs ad ha)⟩
theorem sc_app (a b : List ByteArray) : sc (a ++ b) = sc a ++ sc b := by simp [sc]
theorem SRd.news {w : World} {ad : Addr} {n c : Nat} {ss : List ByteArray} (h : SRd w (some ad) n c ss) : ∀ j u, (sc ss)[j]? = some u → w.cell? (ad.add j) = some u := fun j u hu => by
  have hj : j < n := by
    have := (List.getElem?_eq_some_iff.1 hu).1
    rw [sc_len, h.len] at this; exact this
  rw [h.cells ad rfl j hj]
  have hj2 : j < ss.length := by rw [h.len]; exact hj
  simp [sc, List.getElem?_eq_getElem hj2] at hu
  simp [List.getD, List.getElem?_eq_getElem hj2, hu]
theorem sc_one (ss : List ByteArray) : ∀ u ∈ sc ss, u.oneCell' = true := fun u hu => by
  obtain ⟨s, _, rfl⟩ := List.mem_map.1 hu
  rfl

set_option maxRecDepth 100000 in
theorem app_whereS {w : World} {base : Nat} {v : Value} {n : Nat} {xs : List ByteArray} (hown : w.ownsRow base 9 1 v n (sc xs)) {ad : Addr} {m c : Nat} {ys : List ByteArray} (hr : SRd w (some ad) m c ys) (hb : n + m ≤ 1000000) {ty : TypeId} {v' : Value} {w' : World}
    (hrun : (Builtin.append_ #[28, 28] ty #[v, .slice (some ad) m c]).run Try.prog w = .ok v' w') : v'.ownBlock = v.ownBlock ∨ v'.ownBlock = some w.heap.size := by
  obtain ⟨i0, hi, hz0, hz1, hz2⟩ := info_parts infoStr
  have hl : (sc ys).length = m * i0.size := by rw [sc_len, hr.len, hz1]; omega
  rcases hown.2 with ⟨rfl, rfl⟩ | ⟨g, cap, cur, rfl, hbg, hg, hnc, hcm, hcs, htake⟩
  · by_cases hm : m = 0
    · subst hm
      left
      simp [Builtin.append_, run_underlying Try.underlying28, sizeOf, typeInfo, hi, Builtin.lenOf, Builtin.firstCells, loadCells, loadCellsFrom] at hrun
      rw [← hrun.1]
    · right
      have hr2 := run_append_nil (P := Try.prog) w 28 ty 9 i0 (.string ⟨#[]⟩) Try.underlying28 hi hz0 ad m c (sc ys) hl hr.news (by omega) (by omega) (by rw [hz2]; omega)
      rw [hr2] at hrun
      injection hrun with e _
      rw [← e]; rfl
  · by_cases hroom : n + m ≤ cap
    · left
      have hr2 := run_append_room (P := Try.prog) w 28 ty 9 i0 Try.underlying28 hi g n cap cur hg ad m c (sc ys) hl hr.news (sc_one ys) hroom (by rw [hl, hcs, hz1]; omega)
      rw [hr2] at hrun
      injection hrun with e _
      rw [← e]; rfl
    · right
      have hr2 := run_append_grow (P := Try.prog) w 28 ty 9 i0 (.string ⟨#[]⟩) Try.underlying28 hi hz0 ⟨g, 0, none⟩ n cap (sc xs) (by rw [hown.1, hz1]) (hown.cells (g := g) rfl) ad m c (sc ys) hl hr.news (by omega) (by omega) (growslice_fits (by omega) (by rw [hz2]; omega))
      rw [hr2] at hrun
      injection hrun with e _
      rw [← e]; rfl

/-- 'append(s, x...)' of texts. -/
theorem wp_appS {w : World} {ops : Array Oper} {rest : List Oper} {o : Oper} {a : Act} {Q : Exit → Act → World → Prop} (hgd : o.guard = none) (s x : Operand)
    (ho : o.op = .call { callee := .builtin .append, args := #[s, x], argTypes := #[28, 28] })
    (base : Nat) (v : Value) (n : Nat) (xs : List ByteArray) (hs : a.eval s = v) (hown : w.ownsRow base 9 1 v n (sc xs))
    (ao : Option Addr) (m c : Nat) (ys : List ByteArray) (hx : a.eval x = .slice ao m c) (hr : SRd w ao m c ys) (hb : n + m ≤ 1000000) (hbase : base ≤ w.heap.size)
    (h : ∀ v' w', w'.ownsRow base 9 1 v' (n + m) (sc (xs ++ ys)) → Keep (fun k => v.ownBlock = some k) w w' → (v'.ownBlock = v.ownBlock ∨ ∃ g, v'.ownBlock = some g ∧ w.heap.size ≤ g) → wpList Try.prog ops Q rest (a.put o.dst v') w') : wpList Try.prog ops Q (o :: rest) a w := by
  obtain ⟨i0, hi, hz0, hz1, hz2⟩ := info_parts infoStr
  cases ao with
  | none =>
    have hc := hr.nil rfl
    have hcap := hr.cap
    obtain rfl : m = 0 := by omega
    subst hc
    have hys : ys = [] := List.eq_nil_of_length_eq_zero hr.len
    subst hys
    refine wpList_append_own_none hgd s x 28 ho base 9 i0 1 Try.underlying28 hi v n (sc xs) hs hown hx ?_
    refine h v w ?_ (Keep.refl _ _) (.inl rfl)
    simpa using hown
  | some ad =>
    refine wpList_plain hgd fun K hK => ?_
    obtain ⟨v', w', hrun, h2, h3, _⟩ := run_append_own (P := Try.prog) w base 28 o.type 9 i0 (.string ⟨#[]⟩) 1 16 Try.underlying28 hi hz0 hz1 hz2 rfl (by decide) v n (sc xs) hown ad m c (sc ys) (by rw [sc_len, hr.len]; omega) hr.news (sc_one ys) (by unfold maxLen; omega) (by omega) hbase
    have hw := app_whereS hown hr hb hrun
    rw [← sc_app] at h2
    unfold Oper.wp
    simp only [execOp, ho, resolve, invoke, builtin, Sem.run_bind, Sem.run_pure, Result.andThen_ok, List.map_toArray, List.map_cons, List.map_nil, hs, hx, hrun]
    refine hK _ _ (h v' w' h2 (Keep.ofGrown h3) ?_)
    rcases hw with hw | hw
    · exact .inl hw
    · exact .inr ⟨_, hw, Nat.le_refl _⟩

/-- A text of at most thirty bytes. -/
def cut30 (s : ByteArray) : ByteArray := if 30 < s.size then s.extract 0 30 else s
theorem cut30_size (s : ByteArray) : (cut30 s).size ≤ 30 := by
  unfold cut30
  split
  · rw [ByteArray.size_extract]; omega
  · omega
set_option maxHeartbeats 800000 in
theorem text30 (s : ByteArray) (w : World) : Calls Try.prog 17 #[.string s, .int .i64 30] w fun e w' => e = .returned (.string (cut30 s)) ∧ w' = w := by
  by_cases h : 30 < s.size
  · have HE : Hid (cut30 s = s.extract 0 30) := by unfold Hid cut30; rw [if_pos h]
    have hz : (30 : Int) < (s.size : Int) := by omega
    go_enter Try.func17, Try.ntmps17
    go_wp2
    go_ret
    exact ⟨by rw [HE.out]; rfl, rfl⟩
  · have HE : Hid (cut30 s = s) := by unfold Hid cut30; rw [if_neg h]
    have hz : ¬ (30 : Int) < (s.size : Int) := by omega
    go_enter Try.func17, Try.ntmps17
    go_wp2
    go_ret
    exact ⟨by rw [HE.out]; rfl, rfl⟩

end Go.Proofs.Ytfakcjelibdnbaa
