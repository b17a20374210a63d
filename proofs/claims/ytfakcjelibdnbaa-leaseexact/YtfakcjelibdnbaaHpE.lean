/- lease: the library's Push, Pop, Remove, Fix. -/
import Derived.Test.YtfakcjelibdnbaaHpC
import Derived.Test.YtfakcjelibdnbaaHpD
namespace Go.Proofs.Ytfakcjelibdnbaa
open Go.RowKit Go.Joins

/-- A heap in the memory: its block, its row, its leases. -/
structure GP (q mb tn : Nat) (g : Option Nat) (n c : Nat) (d : Nat → El) (w : World) : Prop where
  hb : HB w q mb g n c tn
  od : Od w g n c d
  hp : Hp d n
theorem GP.keep {q mb tn : Nat} {g : Option Nat} {n c : Nat} {d : Nat → El} {w w' : World} {S : Nat → Prop} (h : GP q mb tn g n c d w) (hk : Keep S w w') (hS : ∀ k, k = q ∨ OF g n d k → ¬ S k) : GP q mb tn g n c d w' :=
  ⟨h.hb.keep hk (hS q (.inl rfl)), h.od.keep hk (fun b hb => hS b (.inr hb)), h.hp⟩

/-- What Push leaves. -/
structure HPushP (q mb tn : Nat) (g : Option Nat) (n c : Nat) (d : Nat → El) (a : El) (w w' : World) (g' c' : Nat) (d' : Nat → El) : Prop where
  gp : GP q mb tn (some g') (n + 1) c' d' w'
  sw : Sws (n + 1) (ins d n a) d'
  kp : Keep (fun k => k = q ∨ k = a.b ∨ OF g n d k) w w'
  wh : g = some g' ∨ w.heap.size ≤ g'

theorem of_ins {g : Option Nat} {n : Nat} {d : Nat → El} {a : El} {k : Nat} (h : OF g (n + 1) (ins d n a) k) : k = a.b ∨ OF g n d k := by
  rcases h with h | ⟨i, hi, e⟩
  · exact .inr (.inl h)
  · by_cases h : i = n
    · subst h; rw [ins_at] at e; exact .inl e.symm
    · rw [ins_old d a h] at e; exact .inr (.inr ⟨i, by omega, e⟩)

set_option maxHeartbeats 1000000 in
theorem hpush_any (q mb : Nat) (g : Option Nat) (n c tn : Nat) (d : Nat → El) (a : El) (p0 : Nat) (w : World) (h : GP q mb tn g n c d w) (ha : LsB w a p0) (hn : n < 1000000) (hne : ¬ OF g n d a.b)
    (hok : Fl.nan a.e = false ∧ a.t < 4611686018427387904) :
    Calls Try.prog 36 #[oi q, .iface 71 (.pointer (some ⟨a.b, 0, none⟩))] w fun e w' => e = .returned (.tuple #[]) ∧ ∃ g' c' d', HPushP q mb tn g n c d a w w' g' c' d' := by
  have mP := m_push w q
  have cP := push_any q mb g n c tn d a p0 w h.hb h.od ha hn hne hok
  have HX : Hid _ := h.hp.push (e := ins d n a) (fun k hk => ins_old d a (by omega))
  clear h ha hne hok
  unfold oi oq
  go_enter Try.func36, Try.ntmps36
  go_wp2_with (first
    | (go_at_call 65; refine cP.mono ?_; clear cP; rintro e w1 ⟨rfl, g', c', hP⟩; have mL := m_len hP.hb.c1; have cU := up_any q g' (n + 1) c' (n + 1) n (ins d n a) _ w1 hP.hb hP.hb.c1 hP.od (Nat.le_refl _) (Nat.lt_succ_self n) HX.out.1 HX.out.2; unfold oi oq at cU)
    | (go_at_call 61; refine (len_any _ _ _ _).mono ?_; rintro e w2 ⟨rfl, rfl⟩)
    | (go_at_call 42; refine cU.mono ?_; clear cU; rintro e w2 ⟨rfl, d', hs, hp, ho, hk⟩))
  go_end0
  have nq : ¬ OF (some g') (n + 1) (ins d n a) q := not_of hP.hb hP.od
  refine ⟨rfl, g', c', d', ⟨hP.hb.keep hk nq, ho, hp⟩, hs, hP.kp.andThen hk (fun k hlt hof => ?_), hP.wh⟩
  rcases hof with e | ⟨i, hi, e⟩
  · cases e
    rcases hP.wh with h | h
    · exact .inr (.inr (.inl h))
    · omega
  · rcases of_ins (g := g) (.inr ⟨i, hi, e⟩) with h | h
    · exact .inr (.inl h)
    · exact .inr (.inr h)

/-- What Fix leaves. -/
structure HFixP (q mb tn b n c : Nat) (d : Nat → El) (w w' : World) (d' : Nat → El) : Prop where
  gp : GP q mb tn (some b) n c d' w'
  sw : Sws n d d'
  kp : Keep (OF (some b) n d) w w'

set_option maxHeartbeats 1000000 in
theorem hfix_any (q mb b n c tn i : Nat) (d : Nat → El) (w : World) (hB : HB w q mb (some b) n c tn) (ho : Od w (some b) n c d) (hi : i < n) (hx : Ex d i n) :
    Calls Try.prog 34 #[oi q, .int .i64 i] w fun e w' => e = .returned (.tuple #[]) ∧ ∃ d', HFixP q mb tn b n c d w w' d' := by
  have mL := m_len hB.c1
  have hf := ho.few
  have nq : ¬ OF (some b) n d q := not_of hB ho
  have cD := down_any q b n c n i d _ w hB hB.c1 ho (Nat.le_refl _) (by omega) hx
  have HBq : Hid (HB w q mb (some b) n c tn) := hB
  have HXq : Hid (Ex d i n) := hx
  clear ho hB hx
  unfold oi oq at *
  go_enter Try.func34, Try.ntmps34
  go_wp2_with (first
    | (go_at_call 61; refine (len_any _ _ _ _).mono ?_; rintro e w2 ⟨rfl, hw⟩; rw [hw]; clear hw w2)
    | (go_at_call 41; refine cD.mono ?_; clear cD; rintro e w2 ⟨bb, rfl, d1, hs, ho, hk, hcase⟩; rcases hcase with ⟨rfl, hp⟩ | ⟨rfl, rfl, hkd⟩)
    | (go_at_call 42; refine (up_any q b n c n i d1 _ w2 (HBq.out.keep hk nq) (HBq.out.keep hk nq).c1 ho (Nat.le_refl _) hi HXq.out hkd).mono ?_; rintro e w3 ⟨rfl, d', hs2, hp, ho2, hk2⟩))
  · go_end0
    exact ⟨rfl, d1, ⟨HBq.out.keep hk nq, ho, hp⟩, hs, hk⟩
  · go_end0
    have hk3 := hk.trans hk2
    exact ⟨rfl, d', ⟨HBq.out.keep hk3 nq, ho2, hp⟩, hs2, hk3⟩

/-- What Pop and Remove leave: the one that was at i stands behind all. -/
structure HRemP (q mb tn b n c i : Nat) (d : Nat → El) (w w' : World) (d' : Nat → El) : Prop where
  gp : GP q mb tn (some b) n c d' w'
  sw : Sws (n + 1) d d'
  at' : d' n = d i
  ls : LsB w' (d i) n
  kp : Keep (fun k => k = q ∨ OF (some b) (n + 1) d k) w w'

/-- The last of the row goes, the others are a heap. -/
theorem remP {q mb tn b n c i : Nat} {d d1 : Nat → El} {w w1 w2 : World} (hs : Sws (n + 1) d d1) (he : d1 n = d i) (hp : Hp d1 n) (hk : Keep (OF (some b) (n + 1) d) w w1) (h : PopP q mb b n c tn d1 w1 w2) : HRemP q mb tn b n c i d w w2 d1 :=
  ⟨⟨h.hb, h.od, hp⟩, hs, he, he ▸ h.ls, (hk.mono fun _ h => .inr h).trans (h.kp.mono fun _ h => h.elim .inl (fun h => .inr (.inl (h ▸ rfl))))⟩

set_option maxHeartbeats 1000000 in
theorem hpop_any (q mb b n c tn : Nat) (d : Nat → El) (w : World) (h : GP q mb tn (some b) (n + 1) c d w) :
    Calls Try.prog 31 #[oi q] w fun e w' => e = .returned (.iface 71 (.pointer (some ⟨(d 0).b, 0, none⟩))) ∧ ∃ d', HRemP q mb tn b n c 0 d w w' d' := by
  have hB := h.hb
  have ho := h.od
  have mL := m_len hB.c1
  have mS := m_swap hB.c1
  have hf := ho.few
  have nq : ¬ OF (some b) (n + 1) d q := not_of hB ho
  have cS := swap_any b (n + 1) c d 0 n (by omega) (by omega) w ho
  rw [show ((0 : Nat) : Int) = 0 from rfl] at cS
  have HBq : Hid (HB w q mb (some b) (n + 1) c tn) := hB
  have HX : Hid (Ex (sw d 0 n) 0 n) := (h.hp.less (Nat.le_succ n)).put (fun k h1 h2 => sw_o d h2 (by omega))
  clear ho hB h
  unfold oi oq at *
  go_enter Try.func31, Try.ntmps31
  go_wp2_with (first
    | (go_at_call 61; refine (len_any _ _ _ _).mono ?_; rintro e w2 ⟨rfl, hw⟩; rw [hw]; clear hw w2)
    | (go_at_call 63; refine cS.mono ?_; clear cS mS; rintro e w1 ⟨rfl, ho1, hk1⟩; have cD := down_any q b (n + 1) c n 0 _ _ w1 (HBq.out.keep hk1 nq) (HBq.out.keep hk1 nq).c1 ho1 (Nat.le_succ n) (by omega) HX.out; unfold oi oq at cD; rw [show ((0 : Nat) : Int) = 0 from rfl] at cD)
    | (go_at_call 41; refine cD.mono ?_; clear cD; rintro e w2 ⟨bb, rfl, d1, hs2, ho2, hk2, hcase⟩; have hk3 : Keep (OF (some b) (n + 1) d) w w2 := hk1.trans (hk2.mono fun k h => ((Sws.step 0 n (Sws.refl d) (by omega) (by omega)).of (Nat.le_refl _)).1 h); have mP := m_pop w2 q; have cP := opop_any q mb b n c tn d1 w2 (HBq.out.keep hk3 nq) ho2)
    | (go_at_call 64; refine cP.mono ?_; clear cP; rintro e w3 ⟨rfl, hP⟩))
  have hs3 : Sws (n + 1) d d1 := (Sws.step 0 n (Sws.refl d) (by omega) (by omega)).trans (hs2.mono (Nat.le_succ n))
  have he : d1 n = d 0 := (hs2.out (Nat.le_refl n)).trans (sw_r d 0 n)
  have hp : Hp d1 n := by
    rcases hcase with ⟨_, hp⟩ | ⟨_, e1, hkd⟩
    · exact hp
    · rw [e1]; exact HX.out.done hkd (.inl rfl)
  go_ret
  exact ⟨by rw [← he]; rfl, d1, remP hs3 he hp hk3 hP⟩

set_option maxHeartbeats 2000000 in
theorem hrem_any (q mb b n c tn i : Nat) (d : Nat → El) (w : World) (h : GP q mb tn (some b) (n + 1) c d w) (hi : i ≤ n) :
    Calls Try.prog 39 #[oi q, .int .i64 i] w fun e w' => e = .returned (.iface 71 (.pointer (some ⟨(d i).b, 0, none⟩))) ∧ ∃ d', HRemP q mb tn b n c i d w w' d' := by
  have hB := h.hb
  have ho := h.od
  have mL := m_len hB.c1
  have hf := ho.few
  have nq : ¬ OF (some b) (n + 1) d q := not_of hB ho
  by_cases hin : i = n
  · subst hin
    have mP := m_pop w q
    have cP := opop_any q mb b i c tn d w hB ho
    have HP : Hid (Hp d i) := h.hp.less (Nat.le_succ i)
    clear h hB ho nq
    unfold oi oq at *
    go_enter Try.func39, Try.ntmps39
    go_wp2_with (first
      | (go_at_call 61; refine (len_any _ _ _ _).mono ?_; rintro e w2 ⟨rfl, hw⟩; rw [hw]; clear hw w2)
      | (go_at_call 64; refine cP.mono ?_; clear cP; rintro e w3 ⟨rfl, hP⟩))
    go_ret
    exact ⟨rfl, d, remP (Sws.refl d) rfl HP.out (Keep.refl _ _) hP⟩
  · have hne : (n : Int) ≠ (i : Int) := by omega
    have mS := m_swap hB.c1
    have cS := swap_any b (n + 1) c d i n (by omega) (by omega) w ho
    have HBq : Hid (HB w q mb (some b) (n + 1) c tn) := hB
    have HX : Hid (Ex (sw d i n) i n) := (h.hp.less (Nat.le_succ n)).put (fun k h1 h2 => sw_o d h2 (by omega))
    have HI : Hid (i < n) := by show i < n; omega
    have HOf : Hid (∀ k, OF (some b) (n + 1) (sw d i n) k → OF (some b) (n + 1) d k) := fun k h => ((Sws.step i n (Sws.refl d) (by omega) (by omega)).of (Nat.le_refl _)).1 h
    have HS1 : Hid (Sws (n + 1) d (sw d i n)) := Sws.step i n (Sws.refl d) (by omega) (by omega)
    have HE1 : Hid (sw d i n n = d i) := sw_r d i n
    have mP := fun w => m_pop w q
    clear ho hB h hin
    unfold oi oq at *
    go_enter Try.func39, Try.ntmps39
    go_wp2_with (first
      | (go_at_call 61; refine (len_any _ _ _ _).mono ?_; rintro e w2 ⟨rfl, hw⟩; rw [hw]; clear hw w2)
      | (go_at_call 63; refine cS.mono ?_; clear cS mS; rintro e w1 ⟨rfl, ho1, hk1⟩; have cD := down_any q b (n + 1) c n i _ _ w1 (HBq.out.keep hk1 nq) (HBq.out.keep hk1 nq).c1 ho1 (Nat.le_succ n) (by omega) HX.out; unfold oi oq at cD)
      | (go_at_call 41; refine cD.mono ?_; clear cD; rintro e w2 ⟨bb, rfl, d1, hs2, ho2, hk2, hcase⟩; have hk3 : Keep (OF (some b) (n + 1) d) w w2 := hk1.trans (hk2.mono HOf.out); rcases hcase with ⟨rfl, hp⟩ | ⟨rfl, e1, hkd⟩)
      | (go_at_call 42; refine (up_any q b (n + 1) c n i d1 _ w2 (HBq.out.keep hk3 nq) (HBq.out.keep hk3 nq).c1 ho2 (Nat.le_succ n) HI.out (e1 ▸ HX.out) (e1 ▸ hkd)).mono ?_; rintro e w4 ⟨rfl, d2, hs4, hp, ho4, hk4⟩; have hk5 : Keep (OF (some b) (n + 1) d) w w4 := hk3.trans (hk4.mono fun k h => HOf.out k (e1 ▸ h)))
      | (go_at_call 64; refine (opop_any q mb b n c tn d2 w4 (HBq.out.keep hk5 nq) ho4).mono ?_; rintro e w3 ⟨rfl, hP⟩)
      | (go_at_call 64; refine (opop_any q mb b n c tn d1 w2 (HBq.out.keep hk3 nq) ho2).mono ?_; rintro e w3 ⟨rfl, hP⟩))
    · go_ret
      have hs3 : Sws (n + 1) d d1 := HS1.out.trans (hs2.mono (Nat.le_succ n))
      have he : d1 n = d i := (hs2.out (Nat.le_refl n)).trans HE1.out
      exact ⟨by rw [← he]; rfl, d1, remP hs3 he hp hk3 hP⟩
    · go_ret
      have hs3 : Sws (n + 1) d d2 := (HS1.out.trans (hs2.mono (Nat.le_succ n))).trans (hs4.mono (Nat.le_succ n))
      have he : d2 n = d i := (hs4.out (Nat.le_refl n)).trans ((hs2.out (Nat.le_refl n)).trans HE1.out)
      exact ⟨by rw [← he]; rfl, d2, remP hs3 he hp hk5 hP⟩

end Go.Proofs.Ytfakcjelibdnbaa
