/- LeaseSteps: what is due in steps is what is due at once. -/
import Derived.Test.YtfakcjelibdnbaaHlP
import Derived.BigQuiet
import Derived.Deep.QuietTactic
import Derived.Deep.CutBlock
import Derived.Deep.CutRange
namespace Go.Proofs.Ytfakcjelibdnbaa
open Go.RowKit Go.Joins

theorem infN_any (w : World) : Calls Try.prog 13 #[.int .i64 (-1)] w fun e w' => e = .returned (.float .f64 NI) ∧ w' = w := by
  have h := run_from
  go_enter Try.func13, Try.ntmps13
  go_wp2
  go_ret
  exact ⟨rfl, rfl⟩

theorem HAt.ksz {w : World} {F : Nat → Prop} {q tn : Nat} {L : Le} (h : HAt w F q tn L) : ∀ p ∈ L, p.1.size ≤ 1000000 := by
  obtain ⟨E, mb, g, n, c, N, d, h, rfl⟩ := h
  intro p hp
  obtain ⟨a, ha, rfl⟩ := List.mem_map.1 hp
  exact h.lv.sm a ha
theorem getD_mem {l : List ByteArray} {j : Nat} (h : j < l.length) : l.getD j ⟨#[]⟩ ∈ l := by
  simp [List.getD, List.getElem?_eq_getElem h]
theorem own_lt {w : World} {B : Nat} {e : TypeId} {sz : Nat} {v : Value} {n : Nat} {xs : List Value} (h : w.ownsRow B e sz v n xs) {k : Nat} (hk : v.ownBlock = some k) : B ≤ k ∧ k < w.heap.size := by
  rcases h.2 with ⟨e, _⟩ | ⟨g, cap, cur, e, hg, hh, _⟩
  · rw [e] at hk; cases hk
  · rw [e] at hk
    have : g = k := Option.some.inj hk
    subst this
    exact ⟨hg, (Array.getElem?_eq_some_iff.1 hh).1⟩
theorem Duo.leftL {w0 w w' : World} {qa qb ta tb : Nat} {La Lb : Le} {Fa Fb : Nat → Prop} {t' : Nat} {L' : Le} (h : Duo w0 qa qb ta tb La Lb Fa Fb w) (hd : Dl w w' Fa qa t' L') : ∃ Fa', Duo w0 qa qb t' tb L' Lb Fa' Fb w' ∧ (∀ k, Fa' k → Fa k) ∧ Keep Fa w w' := by
  obtain ⟨F', h1, h2, h3⟩ := hd
  exact ⟨F', ⟨h1, h.hb.keep h3 (fun k hb ha => h.ap k ha hb), fun k hk hb => h.ap k (h2 k hk) hb, fun k hk => h.na k (h2 k hk), h.nb, h.bl.trans (h3.below h.bl.size h.na)⟩, h2, h3⟩

/-- Between two steps: what was told, and what is left. -/
structure St (w : World) (qa qb tn : Nat) (L : Le) (wx : World) (v : Value) (K : List ByteArray) (L' : Le) (F1 F2 : Nat → Prop) : Prop where
  duo : Duo w qa qb tn tn L' L F1 F2 wx
  row : wx.ownsRow w.heap.size 9 1 v K.length (sc K)
  out : ∀ k, v.ownBlock = some k → ¬ F1 k ∧ ¬ F2 k
  eq : K ++ (due L' Fl.inf).1 = (due L Fl.inf).1
section
variable {w : World} {qa qb tn : Nat} {L : Le} {wx : World} {v : Value} {K : List ByteArray} {L' : Le} {F1 F2 : Nat → Prop}
/-- A due row beside it. -/
structure St2 (w : World) (qa qb tn : Nat) (L : Le) (wr : World) (wx : World) (v : Value) (K K1 : List ByteArray) (L1 : Le) (F1 F2 : Nat → Prop) (a5 : Option Addr) (c5 : Nat) : Prop where
  duo : Duo w qa qb tn tn L1 L F1 F2 wx
  row : wx.ownsRow w.heap.size 9 1 v K.length (sc K)
  out : ∀ k, v.ownBlock = some k → ¬ F1 k ∧ ¬ F2 k
  srd : SRd wx a5 K1.length c5 K1
  far : ∀ ad, a5 = some ad → wr.heap.size ≤ ad.block ∧ v.ownBlock ≠ some ad.block
  fl : ∀ k, F1 k → k < wr.heap.size
  sz : wr.heap.size ≤ wx.heap.size
theorem St.due {w5 : World} {v5 : Value} {f : Nat} (h : St w qa qb tn L wx v K L' F1 F2) (hP : DueP wx w5 F1 qa tn (due L' f).1 (due L' f).2 v5) :
    ∃ F3 a5 c5, v5 = .slice a5 (due L' f).1.length c5 ∧ St2 w qa qb tn L wx w5 v K (due L' f).1 (due L' f).2 F3 F2 a5 c5 := by
  obtain ⟨F3, hD, hsub, hk⟩ := h.duo.leftL hP.dl
  obtain ⟨a5, c5, e5, hS⟩ := SRd.ofOwn hP.row
  refine ⟨F3, a5, c5, e5, hD, own_keep h.row hk (fun k hk2 => (h.out k hk2).1), fun k hk2 => ⟨fun hF => (h.out k hk2).1 (hsub k hF), (h.out k hk2).2⟩, hS, fun ad ha => ?_, fun k hF => h.duo.ha.lt (hsub k hF), hk.size⟩
  have h1 : wx.heap.size ≤ ad.block := by
    rcases hP.row.2 with ⟨e, _⟩ | ⟨g, cap, cur, e, hg, _⟩
    · rw [e5, ha] at e; cases e
    · rw [e5, ha] at e
      have : ad = ⟨g, 0, none⟩ := by
        injection e with e _ _
        exact Option.some.inj e
      rw [this]; exact hg
  exact ⟨h1, fun e => by have := (own_lt h.row e).2; omega⟩
/-- It is told. -/
theorem St2.app {wr w6 : World} {v6 : Value} {K1 : List ByteArray} {L1 : Le} {a5 : Option Addr} {c5 : Nat} (h : St2 w qa qb tn L wr wx v K K1 L1 F1 F2 a5 c5) (ho : w6.ownsRow w.heap.size 9 1 v6 (K.length + K1.length) (sc (K ++ K1))) (hk : Keep (fun k => v.ownBlock = some k) wx w6)
    (hw : v6.ownBlock = v.ownBlock ∨ ∃ g, v6.ownBlock = some g ∧ wx.heap.size ≤ g) :
    Duo w qa qb tn tn L1 L F1 F2 w6 ∧ w6.ownsRow w.heap.size 9 1 v6 (K ++ K1).length (sc (K ++ K1)) ∧ (∀ k, v6.ownBlock = some k → ¬ F1 k ∧ ¬ F2 k) ∧ SRd w6 a5 K1.length c5 K1 := by
  refine ⟨h.duo.keep hk (fun k hF e => (h.out k e).1 hF) (fun k hF e => (h.out k e).2 hF) (fun k e => (own_lt h.row e).1), by rw [List.length_append]; exact ho, fun k e => ?_, h.srd.keep hk (fun ad ha e => (h.far ad ha).2 e)⟩
  rcases hw with e2 | ⟨g, e2, hg⟩
  · exact h.out k (e2 ▸ e)
  · rw [e2] at e
    have : g = k := Option.some.inj e
    subst this
    exact ⟨fun hF => by have := h.duo.ha.lt hF; omega, fun hF => by have := h.duo.hb.lt hF; omega⟩
end

set_option maxRecDepth 100000 in
set_option maxHeartbeats 8000000 in
theorem steps_law (a0 : Option Addr) (n0 c0 : Nat) (op : Nat → Opx) (a1 : Option Addr) (n1 c1 : Nat) (u : Nat → Nat) (w : World) (hO : LRd w a0 n0 c0 op) (hU : URd w a1 n1 c1 u) :
    Calls Try.prog 4 #[.slice a0 n0 c0, .slice a1 n1 c1] w fun e w' => e = .returned (.bool true) ∧ Below w.heap.size w w' := by
  have hf := run_from
  have hcap0 := hO.cap
  have hcap1 := hU.cap
  have hm0 : c0 ≤ 9223372036854775807 := by have := hO.most; unfold maxLen at this; omega
  have hm1 : c1 ≤ 9223372036854775807 := by have := hU.most; unfold maxLen at this; omega
  have HO : Hid (LRd w a0 n0 c0 op) := hO
  have HU : Hid (URd w a1 n1 c1 u) := hU
  have cA := new_any w
  clear hO hU
  go_enter Try.func4, Try.ntmps4
  go_upto_block 0 with (first
    | (go_at_call 8; refine cA.mono ?_; clear cA; rintro e w1 ⟨qa, Fa, rfl, hNa⟩; have cB := new_any w1)
    | (go_at_call 8; refine cB.mono ?_; clear cB; rintro e w2 ⟨qb, Fb, rfl, hNb⟩; have cW := wakes_any w2)
    | (go_at_call 9; refine cW.mono ?_; clear cW; rintro e w3 ⟨rfl, hb3⟩))
  have H0 : Hid (Duo w qa qb 0 0 [] [] Fa Fb w3) := (Duo.new hNa hNb).below hb3
  clear hNa hNb hb3
  go_cut [7, 8, 9] from 32 to 62 (fun _ _ _ wx => ∃ (tn : Nat) (L : Le) (F1 F2 : Nat → Prop), tn ≤ 200 ∧ Hid (Duo w qa qb tn tn L L F1 F2 wx))
  case first =>
    go_wp2_with fail
    go_loopg [7, 8, 9] 200 (fun kx s7 _ _ wr => ∃ (i tn : Nat) (L : Le) (F1 F2 : Nat → Prop), s7 = .int .i64 i ∧ i + kx = 200 ∧ tn ≤ i ∧ Hid (Duo w qa qb tn tn L L F1 F2 wr))
    case atStart => exact ⟨0, 0, [], Fa, Fb, rfl, rfl, Nat.le_refl _, H0⟩
    case round =>
      clear H0
      obtain ⟨i, tn, L, F1, F2, rfl, hik, htn, HD⟩ := hrel
      by_cases h1 : i < n0
      · have h1z : (i : Int) < (n0 : Int) := by omega
        by_cases h2 : i < 200
        · have h2z : (i : Int) < 200 := by omega
          obtain ⟨b, off, rfl, hce⟩ := (HO.out.below HD.out.bl).flat (by omega)
          obtain ⟨_, _, q2, q3, hsz, hfb⟩ := hce i h1
          clear hce
          generalize (op i).k = ky at q2 hsz
          generalize (op i).f = fx at q3 hfb
          have cT := text30 ky wr
          have hks := cut30_size ky
          generalize cut30 ky = kk at cT hks
          cases hx : Fl.nan fx with
          | true =>
            have cS := set_nan (w := wr) (q := qa) kk hx
            have cS2 := set_nan (w := wr) (q := qb) kk hx
            clear hx
            go_wp2_with (first
              | (go_at_call 17; refine cT.mono ?_; clear cT; rintro e w5 ⟨rfl, hw⟩; rw [hw]; clear hw w5)
              | (go_at_call 18; refine cS.mono ?_; clear cS; rintro e w5 ⟨rfl, hw⟩; rw [hw]; clear hw w5)
              | (go_at_call 18; refine cS2.mono ?_; clear cS2; rintro e w5 ⟨rfl, hw⟩; rw [hw]; clear hw w5))
            go_roundg (gk - 1)
            case measure => omega
            case rel => exact ⟨i + 1, tn, L, F1, F2, by go_num, by omega, by omega, HD⟩
          | false =>
            have cS := set_any HD.out.ha kk (by omega) hx (by omega)
            have HX : Hid (Fl.nan fx = false) := hx
            clear hx
            go_wp2_with (first
              | (go_at_call 17; refine cT.mono ?_; clear cT; rintro e w5 ⟨rfl, hw⟩; rw [hw]; clear hw w5)
              | (go_at_call 18; refine cS.mono ?_; clear cS; rintro e w5 ⟨rfl, hD⟩; obtain ⟨F3, HD3, _⟩ := HD.out.left hD; have cS2 := set_any HD3.hb kk (by omega) HX.out (by omega))
              | (go_at_call 18; refine cS2.mono ?_; clear cS2; rintro e w6 ⟨rfl, hD2⟩; obtain ⟨F4, HD4, _⟩ := HD3.right hD2))
            go_roundg (gk - 1)
            case measure => omega
            case rel => exact ⟨i + 1, tn + 1, _, F3, F4, by go_num, by omega, by omega, HD4⟩
        · have h2z : ¬ ((i : Int) < 200) := by omega
          go_wp2
          go_meet
          exact ⟨tn, L, F1, F2, by omega, HD⟩
      · have h1z : ¬ ((i : Int) < (n0 : Int)) := by omega
        go_wp2
        go_meet
        exact ⟨tn, L, F1, F2, by omega, HD⟩
  case rest =>
  clear H0
  obtain ⟨tn, L, F1, F2, htn, HD⟩ := hcut
  have cL := lenH_any HD.out.ha
  have cI := infN_any wc
  go_upto_block 2 with (first
    | (go_at_call 15; refine cL.mono ?_; clear cL; rintro e w5 ⟨rfl, hw⟩; rw [hw]; clear hw w5)
    | (go_at_call 13; refine cI.mono ?_; clear cI; rintro e w5 ⟨rfl, hw⟩; rw [hw]; clear hw w5))
  have HL : Hid (L.length ≤ 200) := Nat.le_trans HD.out.ha.ltn htn
  have HF : Hid (Nk L ∧ (∀ p ∈ L, Fl.nan p.2 = false) ∧ (due L Fl.inf).1.length = L.length) := by
    have h1 := due_facts _ L (Nat.le_refl _) HD.out.ha.nk Fl.inf
    have h2 := due_all _ L (Nat.le_refl _) HD.out.ha.nk HD.out.ha.num
    refine ⟨HD.out.ha.nk, HD.out.ha.num, ?_⟩
    have := h1.2.2.2.2
    rw [h2] at this
    simpa using this
  have H1 : Hid (St w qa qb tn L wc (.slice none 0 0) [] L F1 F2) := ⟨HD.out, ⟨rfl, .inl ⟨rfl, rfl⟩⟩, fun k e => (by cases e), rfl⟩
  clear HD
  go_cut [11, 12, 13, 14, 15, 16, 17, 18] from 66 to 112 (fun s11 _ _ _ _ _ _ _ wx => ∃ (K : List ByteArray) (L' : Le) (F3 : Nat → Prop), Hid (St w qa qb tn L wx s11 K L' F3 F2))
  case first =>
    go_wp2_with fail
    go_loopg [11, 12, 13, 14, 15, 16, 17, 18] 50 (fun kx s11 s12 s13 _ _ _ _ _ wr => ∃ (i x : Nat) (K : List ByteArray) (L' : Le) (F3 : Nat → Prop), s12 = .float .f64 x ∧ s13 = .int .i64 i ∧ i + kx = 50 ∧ Hid (St w qa qb tn L wr s11 K L' F3 F2))
    case atStart => exact ⟨0, NI, [], L, F1, rfl, rfl, rfl, H1⟩
    case round =>
      clear H1
      obtain ⟨i, x, K, L', F3, rfl, rfl, hik, HS⟩ := hrel
      by_cases h1 : i < n1
      · have h1z : (i : Int) < (n1 : Int) := by omega
        by_cases h2 : i < 50
        · have h2z : (i : Int) < 50 := by omega
          obtain ⟨b, off, rfl, hce⟩ := (HU.out.below HS.out.duo.bl).flat (by omega)
          obtain ⟨hfb, q0⟩ := hce i h1
          clear hce
          generalize u i = fx at q0 hfb
          have hge := f64_ge fx x
          cases hx : fle x fx with
          | false =>
            rw [hx] at hge
            clear hx
            go_wp2
            go_roundg (gk - 1)
            case measure => omega
            case rel => exact ⟨i + 1, x, K, L', F3, rfl, by go_num, by omega, HS⟩
          | true =>
            rw [hx] at hge
            have HX : Hid (Fl.nan fx = false) := (fle_num hx).2
            have HK : Hid (Nk L' ∧ K.length + L'.length ≤ 200) := by
              refine ⟨HS.out.duo.ha.nk, ?_⟩
              have e1 := HS.out.eq
              have e2 := congrArg List.length e1
              rw [List.length_append, HF.out.2.2] at e2
              have e3 := due_facts _ L' (Nat.le_refl _) HS.out.duo.ha.nk Fl.inf
              have e4 := due_all _ L' (Nat.le_refl _) HS.out.duo.ha.nk HS.out.duo.ha.num
              have e5 := e3.2.2.2.2
              rw [e4] at e5
              have e6 := HL.out
              simp at e5
              omega
            have cD := due_any HS.out.duo.ha fx (by omega)
            clear hx
            go_upto_region 21 with (go_at_call 12; refine cD.mono ?_; clear cD; rintro e w5 ⟨v5, rfl, hP⟩)
            obtain ⟨F5, a5, c5, rfl, h5⟩ := HS.out.due hP
            clear hP
            obtain ⟨i1, i2, i3, i4, i5⟩ := due_facts _ L' (Nat.le_refl _) HK.out.1 fx
            have ec := due_chain _ L' (Nat.le_refl _) HK.out.1 (fle_inf HX.out)
            obtain ⟨K1, hK1⟩ : ∃ K1, (due L' fx).1 = K1 := ⟨_, rfl⟩
            obtain ⟨L1, hL1⟩ : ∃ L1, (due L' fx).2 = L1 := ⟨_, rfl⟩
            simp only [hK1, hL1] at h5 i3 i4 i5 ec
            rw [hK1]
            have H5 : Hid (St2 w qa qb tn L wr w5 u11 K K1 L1 F5 F2 a5 c5) := h5
            have HI4 : Hid (due L1 fx = ([], L1)) := i4
            have HI3 : Hid (∀ k ∈ K1, (∀ p ∈ L1, p.1 ≠ k) ∧ k.size ≤ 1000000) := fun k hk => by
              obtain ⟨⟨e, he⟩, h2⟩ := i3 k hk
              exact ⟨h2, HS.out.duo.ha.ksz _ he⟩
            have HEc : Hid (K1 ++ (due L1 Fl.inf).1 = (due L' Fl.inf).1) := by rw [ec]; exact rfl
            have hlen : K.length + K1.length ≤ 1000000 := by have := HK.out.2; omega
            clear h5 i1 i2 i3 i4 i5 ec hK1 hL1
            go_wp2_with (first
              | (at_builtin; refine wp_appS rfl _ _ rfl w.heap.size u11 K.length K rfl H5.out.row a5 K1.length c5 K1 rfl H5.out.srd hlen H5.out.duo.bl.size ?_; intro v6 w6 ho6 hk6 hw6; have h6 := H5.out.app ho6 hk6 hw6; have cD2 := due_any h6.1.ha fx (by omega); rw [HI4.out] at cD2)
              | (go_at_call 12; refine cD2.mono ?_; clear cD2; rintro e w7 ⟨v7, rfl, hP7⟩; obtain ⟨a7, c7, rfl, hS7⟩ := SRd.ofOwn hP7.row))
            obtain ⟨F7, hD7, hsub7, hk7⟩ := h6.1.leftL hP7.dl
            have HD7 : Hid (Duo w qa qb tn tn L1 L F7 F2 w7) := hD7
            have HR7 : Hid (w7.ownsRow w.heap.size 9 1 v6 (K ++ K1).length (sc (K ++ K1))) := own_keep h6.2.1 hk7 (fun k e => (h6.2.2.1 k e).1)
            have HO7 : Hid (∀ k, v6.ownBlock = some k → ¬ F7 k ∧ ¬ F2 k) := fun k e => ⟨fun h => (h6.2.2.1 k e).1 (hsub7 k h), (h6.2.2.1 k e).2⟩
            have HS7 : Hid (SRd w7 a5 K1.length c5 K1) := h6.2.2.2.keep hk7 (fun ad ha hF => by
              have h1 := (H5.out.far ad ha).1
              have h2 := H5.out.fl _ hF
              omega)
            have HE7 : Hid ((K ++ K1) ++ (due L1 Fl.inf).1 = (due L Fl.inf).1) := by
              show _ = _
              rw [List.append_assoc, HEc.out]; exact HS.out.eq
            have hcap5 := HS7.out.cap
            have hmost5 : c5 ≤ 9223372036854775807 := by have := HS7.out.most; unfold maxLen at this; omega
            clear hD7 hsub7 hk7 h6 hP7 hS7 ho6 hk6 hw6
            go_loopg [16, 17, 18] K1.length (fun kz s16 _ _ wq => ∃ j : Nat, s16 = .int .i64 j ∧ j + kz = K1.length ∧ wq = w7)
            case atStart => exact ⟨0, rfl, by omega, rfl⟩
            case round =>
              obtain ⟨j, rfl, hjk, rfl⟩ := hrel
              by_cases hj : j < K1.length
              · have hjz : (j : Int) < (K1.length : Int) := by omega
                obtain ⟨b5, o5, rfl, hc5⟩ := HS7.out.flat (by omega)
                have cj := hc5 j hj
                obtain ⟨g1, g2⟩ := HI3.out _ (getD_mem hj)
                have cE := end_any HD7.out.ha (K1.getD j ⟨#[]⟩) g2
                rw [lk_none g1] at cE
                clear hc5 g1 g2
                generalize K1.getD j ⟨#[]⟩ = kj at cj cE
                go_wp2_with (go_at_call 19; refine cE.mono ?_; clear cE; rintro e w8 ⟨rfl, hw⟩; rw [hw]; clear hw w8)
                go_roundg (gk - 1)
                case measure => omega
                case rel => exact ⟨j + 1, by go_num, by omega, rfl⟩
              · have hjz : ¬ ((j : Int) < (K1.length : Int)) := by omega
                go_wp2
                go_roundg (49 - i)
                case measure => omega
                case rel => exact ⟨i + 1, fx, K ++ K1, L1, F7, rfl, by go_num, by omega, HD7.out, HR7.out, HO7.out, HE7.out⟩
        · have h2z : ¬ ((i : Int) < 50) := by omega
          go_wp2
          go_meet
          exact ⟨K, L', F3, HS⟩
      · have h1z : ¬ ((i : Int) < (n1 : Int)) := by omega
        go_wp2
        go_meet
        exact ⟨K, L', F3, HS⟩
  case rest =>
  clear H1
  obtain ⟨K, L', F3, HS⟩ := hcut
  have HK : Hid ((due L' Fl.inf).2 = [] ∧ K.length + (due L' Fl.inf).1.length ≤ 200) := by
    have e4 := due_all _ L' (Nat.le_refl _) HS.out.duo.ha.nk HS.out.duo.ha.num
    have e2 := congrArg List.length HS.out.eq
    rw [List.length_append, HF.out.2.2] at e2
    have e6 := HL.out
    exact ⟨e4, by omega⟩
  have cI := fun w => infP_any w
  have cD := due_any HS.out.duo.ha Fl.inf (by omega)
  go_upto_region 31 with (first
    | (go_at_call 13; refine (cI _).mono ?_; rintro e w5 ⟨rfl, hw⟩; rw [hw]; clear hw w5)
    | (go_at_call 12; refine cD.mono ?_; clear cD; rintro e w5 ⟨v5, rfl, hP⟩; obtain ⟨F5, a5, c5, rfl, h5⟩ := HS.out.due hP; clear hP)
    | (at_builtin; refine wp_appS rfl _ _ rfl w.heap.size u11 K.length K rfl h5.row a5 (due L' Fl.inf).1.length c5 (due L' Fl.inf).1 rfl h5.srd (by have := HK.out.2; omega) h5.duo.bl.size ?_; intro v6 w6 ho6 hk6 hw6; have h6 := h5.app ho6 hk6 hw6))
  rw [HS.out.eq, HK.out.1] at h6
  have cD := due_any h6.1.hb Fl.inf (by omega)
  obtain ⟨a6, c6, rfl, hS6⟩ := SRd.ofOwn h6.2.1
  have hRl := HF.out.2.2
  have HD6 : Hid (Duo w qa qb tn tn [] L F5 F2 w6) := h6.1
  have HO6 : Hid (∀ ad, a6 = some ad → ¬ F2 ad.block) := fun ad ha => (h6.2.2.1 ad.block (by rw [ha]; rfl)).2
  clear h6 ho6 hk6 hw6 h5
  generalize (due L Fl.inf).1 = R at *
  generalize (due L Fl.inf).2 = R2 at *
  have HS6 : Hid (SRd w6 a6 R.length c6 R) := hS6
  rw [← hRl]
  clear hS6 hRl HF HL HK HS
  go_wp2_with (first
    | (go_at_call 13; refine (cI _).mono ?_; rintro e w7 ⟨rfl, hw⟩; rw [hw]; clear hw w7)
    | (go_at_call 12; refine cD.mono ?_; clear cD; rintro e w7 ⟨v7, rfl, hP⟩; obtain ⟨a7, c7, rfl, hS7⟩ := SRd.ofOwn hP.row; obtain ⟨F7, hD7, _, hk7⟩ := HD6.out.swap.leftL hP.dl; clear hP)
    | (go_at_call 11; refine (kSame_true a6 _ c6 a7 c7 R w7 (HS6.out.keep hk7 HO6.out) hS7).mono ?_; rintro e w8 ⟨rfl, hb8⟩; have cL := lenH_any (hD7.hb.below hb8))
    | (go_at_call 15; refine cL.mono ?_; clear cL; rintro e w9 ⟨rfl, hw⟩; rw [hw]; clear hw w9))
  go_ret
  exact ⟨rfl, hD7.bl.trans (hb8.mono hD7.bl.size)⟩

end Go.Proofs.Ytfakcjelibdnbaa
