/- lease: the library's heap: up and down. -/
import Derived.Test.YtfakcjelibdnbaaHpB
import Derived.Deep.LoopGhost
namespace Go.Proofs.Ytfakcjelibdnbaa
open Go.RowKit Go.Joins

def oq (q : Nat) : Value := .pointer (some ⟨q, 1, none⟩)
def oi (q : Nat) : Value := .iface 73 (oq q)

theorem m_val (fu : Nat) {nm : String} {f : Nat} {s : TypeId} (hf : (Try.prog.info? 73).bind (fun ti => ti.methods.find? (·.name == nm)) = some ⟨nm, s, #[], some (f, false)⟩) {w : World} {q n c : Nat} {g : Option Nat} (h : w.cell? ⟨q, 1, none⟩ = some (sl g n c)) :
    Sem.run Try.prog (method (fu + 1) 73 (.pointer (some ⟨q, 1, none⟩)) nm) w = .ok (f, sl g n c) w := by
  obtain ⟨ti, hi, hm⟩ := Option.bind_eq_some_iff.1 hf
  have hu : Try.prog.underlying 64 = some (.slice 71) := Try.underlying64
  have ha : ∀ w, (isAgg 64).run Try.prog w = .ok false w := fun w => by kernel_rfl
  have hk : ∀ (x y : TypeId) (a : Addr) (b c : String) (w : World), (Builtin.ssaWrapNilChk_ #[x] y #[.pointer (some a), strVal b, strVal c]).run Try.prog w = .ok (.pointer (some a)) w := fun _ _ _ _ _ _ => rfl
  simp [method, typeInfo, hi, hm, follow, receiverAt, run_underlying Try.underlying73, Place.get, hk, asAddr, loadVar, ha, h]

theorem m_ptr (fu : Nat) {nm : String} {f : Nat} {s : TypeId} (hf : (Try.prog.info? 73).bind (fun ti => ti.methods.find? (·.name == nm)) = some ⟨nm, s, #[], some (f, true)⟩) (w : World) (q : Nat) :
    Sem.run Try.prog (method (fu + 1) 73 (.pointer (some ⟨q, 1, none⟩)) nm) w = .ok (f, .pointer (some ⟨q, 1, none⟩)) w := by
  obtain ⟨ti, hi, hm⟩ := Option.bind_eq_some_iff.1 hf
  simp [method, typeInfo, hi, hm, follow, receiverAt, run_underlying Try.underlying73, Place.get]

section
variable {w : World} {q n c : Nat} {g : Option Nat}
theorem m_less (h : w.cell? ⟨q, 1, none⟩ = some (sl g n c)) : Sem.run Try.prog (method 206 73 (.pointer (some ⟨q, 1, none⟩)) "Less") w = .ok (62, sl g n c) w := m_val (206 - 1) (s := 88) (by kernel_rfl) h
theorem m_swap (h : w.cell? ⟨q, 1, none⟩ = some (sl g n c)) : Sem.run Try.prog (method 206 73 (.pointer (some ⟨q, 1, none⟩)) "Swap") w = .ok (63, sl g n c) w := m_val (206 - 1) (s := 84) (by kernel_rfl) h
theorem m_len (h : w.cell? ⟨q, 1, none⟩ = some (sl g n c)) : Sem.run Try.prog (method 206 73 (.pointer (some ⟨q, 1, none⟩)) "Len") w = .ok (61, sl g n c) w := m_val (206 - 1) (s := 41) (by kernel_rfl) h
end
theorem m_push (w : World) (q : Nat) : Sem.run Try.prog (method 206 73 (.pointer (some ⟨q, 1, none⟩)) "Push") w = .ok (65, .pointer (some ⟨q, 1, none⟩)) w := m_ptr (206 - 1) (s := 87) (by kernel_rfl) w q
theorem m_pop (w : World) (q : Nat) : Sem.run Try.prog (method 206 73 (.pointer (some ⟨q, 1, none⟩)) "Pop") w = .ok (64, .pointer (some ⟨q, 1, none⟩)) w := m_ptr (206 - 1) (s := 86) (by kernel_rfl) w q

theorem Keep.drewN_l {S : Nat → Prop} {w w' : World} (k : Nat) (h : Keep S (w.drewN k) w') : Keep S w w' := ⟨h.os, h.tape, h.output, h.size, h.block⟩
theorem Keep.drewN_r {S : Nat → Prop} {w : World} (k : Nat) : Keep S w (w.drewN k) := ⟨rfl, rfl, rfl, Nat.le_refl _, fun _ _ _ => rfl⟩
theorem Sws.of {m r : Nat} (hm : m ≤ r) {d e : Nat → El} (h : Sws m d e) {g : Option Nat} {k : Nat} : OF g r e k ↔ OF g r d k := by
  have h' := h.mono hm
  constructor
  · rintro (h1 | ⟨i, hi, e1⟩)
    · exact .inl h1
    · obtain ⟨j, hj, e2⟩ := h'.to i hi
      exact .inr ⟨j, hj, by rw [← e2]; exact e1⟩
  · rintro (h1 | ⟨i, hi, e1⟩)
    · exact .inl h1
    · obtain ⟨j, hj, e2⟩ := h'.from i hi
      exact .inr ⟨j, hj, by rw [e2]; exact e1⟩

/-- The heap's block is not the row's, and no lease's. -/
theorem not_of {w : World} {q : Nat} {X : Array Value} (hq : w.heap[q]? = some (.cells X 66 (0, 0))) {g : Option Nat} {n c : Nat} {d : Nat → El} (h : Od w g n c d) : ¬ OF g n d q := by
  rintro (e | ⟨i, hi, e⟩)
  · obtain ⟨cur, h1, _⟩ := h.row q e
    rw [hq] at h1
    injection h1 with h1
    injection h1 with _ h1 _
    exact absurd h1 (by decide)
  · have h2 := h.ls i hi
    unfold LsB at h2
    rw [e, hq] at h2
    injection h2 with h2
    injection h2 with _ h2 _
    exact absurd h2 (by decide)

set_option maxHeartbeats 2000000 in
theorem up_any (q b r c m j : Nat) (d : Nat → El) (X : Array Value) (w : World) (hq : w.heap[q]? = some (.cells X 66 (0, 0))) (hc : w.cell? ⟨q, 1, none⟩ = some (sl (some b) r c)) (ho : Od w (some b) r c d)
    (hm : m ≤ r) (hj : j < m) (hx : Ex d j m) (hk : Kids d j m) :
    Calls Try.prog 42 #[oi q, .int .i64 j] w fun e w' => e = .returned (.tuple #[]) ∧ ∃ d', Sws m d d' ∧ Hp d' m ∧ Od w' (some b) r c d' ∧ Keep (OF (some b) r d) w w' := by
  have hr : r ≤ 1000000 := ho.few
  have HN : Hid _ := not_of hq ho
  have H0 : Hid (Od w (some b) r c d ∧ Ex d j m ∧ Kids d j m) := ⟨ho, hx, hk⟩
  have HC : Hid _ := hc
  clear ho hx hk hq hc
  unfold oi oq
  go_enter Try.func42, Try.ntmps42
  go_wp2
  go_loopg [1] j (fun kx s1 wr => ∃ (j' : Nat) (dk : Nat → El), s1 = .int .i64 j' ∧ j' ≤ kx ∧ j' < m ∧ Hid (Sws m d dk) ∧ Hid (Ex dk j' m ∧ Kids dk j' m) ∧ Hid (Od wr (some b) r c dk) ∧ Hid (Keep (OF (some b) r d) w wr) ∧ Hid (wr.cell? ⟨q, 1, none⟩ = some (sl (some b) r c)))
  case atStart => exact ⟨j, d, rfl, Nat.le_refl _, hj, Sws.refl _, H0.out.2, H0.out.1, Keep.refl _ _, HC⟩
  case round =>
    clear H0 HC
    obtain ⟨j', dk, rfl, hjk, hjm, HS, HX, HO, HK, HC⟩ := hrel
    by_cases h0 : j' = 0
    · subst h0
      go_wp2
      go_end0
      exact ⟨rfl, dk, HS.out, HX.out.1.done HX.out.2 (.inl rfl), HO.out, HK.out⟩
    · have hdiv : ((j' : Int) - 1).tdiv 2 = (((j' - 1) / 2 : Nat) : Int) := by
        rw [show ((j' : Int) - 1) = ((j' - 1 : Nat) : Int) by omega]
        exact Int.ofNat_tdiv _ _
      obtain ⟨p, hp⟩ : ∃ p, (j' - 1) / 2 = p := ⟨_, rfl⟩
      rw [hp] at hdiv
      have hpj : p < j' := by omega
      have hne : (p : Int) ≠ (j' : Int) := by omega
      have mL := m_less HC.out
      have cL := less_any b r c dk j' p (by omega) (by omega) wr HO.out
      have HP : Hid _ := hp
      by_cases hl : (dk j').Lt (dk p)
      · rw [decide_eq_true hl] at cL
        have mS := fun k => m_swap (w := wr.drewN k) HC.out
        have cS := fun k => swap_any b r c dk p j' (by omega) (by omega) (wr.drewN k) (HO.out.drewN k)
        have HL : Hid _ := hl
        clear hl h0 hp
        go_wp2_with (first
          | (go_at_call 62; refine cL.mono ?_; clear cL mL; rintro e w1 ⟨rfl, k, rfl⟩; have mS1 := mS k; clear mS)
          | (go_at_call 63; refine (cS _).mono ?_; clear cS; rintro e w1 ⟨rfl, HO1, HK1⟩))
        -- UP ENDS
        have e1 := HP.out
        have E1 := HX.out.1.up (by omega) hjm (by rw [e1]; exact HL.out)
        rw [e1] at E1
        have E2 : ∀ k, OF (some b) r dk k ↔ OF (some b) r d k := fun k => HS.out.of hm
        have K1 : Keep (OF (some b) r d) w w1 := HK.out.trans ((Keep.drewN_l k HK1).mono fun k h => (E2 k).1 h)
        have C1 : w1.cell? ⟨q, 1, none⟩ = some (sl (some b) r c) := HK1.cell (p := ⟨q, 1, none⟩) HC.out (fun h => HN.out ((E2 q).1 h))
        go_roundg p
        case measure => omega
        case rel => exact ⟨p, sw dk p j', rfl, Nat.le_refl _, by omega, .step p j' HS.out (by omega) (by omega), E1, HO1, K1, C1⟩
      · rw [decide_eq_false hl] at cL
        have HL : Hid _ := hl
        clear hl h0 hp
        go_wp2_with (first
          | (go_at_call 62; refine cL.mono ?_; clear cL mL; rintro e w1 ⟨rfl, k, rfl⟩))
        go_wp2
        go_end0
        exact ⟨rfl, dk, HS.out, HX.out.1.done HX.out.2 (.inr (by rw [HP.out]; exact HL.out)), HO.out.drewN k, HK.out.trans (Keep.drewN_r k)⟩

/-- What down leaves. -/
def DownP (b r c m i0 : Nat) (d : Nat → El) (w : World) (e : Ending) (w' : World) : Prop :=
  ∃ bb, e = .returned (.bool bb) ∧ ∃ d', Sws m d d' ∧ Od w' (some b) r c d' ∧ Keep (OF (some b) r d) w w' ∧ ((bb = true ∧ Hp d' m) ∨ (bb = false ∧ d' = d ∧ Kids d i0 m))
theorem downP {b r c m i0 i : Nat} {d dk : Nat → El} {w w' : World} (hk : Kids dk i m) (hx : Ex dk i m) (hd : (i = i0 ∧ dk = d) ∨ (i0 < i ∧ ¬ (dk i).Lt (dk ((i - 1) / 2)))) (hs : Sws m d dk) (ho : Od w' (some b) r c dk) (hK : Keep (OF (some b) r d) w w') :
    DownP b r c m i0 d w (.returned (.bool (decide (i0 < i)))) w' := by
  rcases hd with ⟨e1, e2⟩ | ⟨e1, e2⟩
  · subst e1; subst e2
    exact ⟨_, rfl, _, hs, ho, hK, .inr ⟨by simp, rfl, hk⟩⟩
  · exact ⟨_, rfl, dk, hs, ho, hK, .inl ⟨by simp [e1], hx.done hk (.inr e2)⟩⟩

set_option maxHeartbeats 40000000 in
theorem down_any (q b r c m i0 : Nat) (d : Nat → El) (X : Array Value) (w : World) (hq : w.heap[q]? = some (.cells X 66 (0, 0))) (hc : w.cell? ⟨q, 1, none⟩ = some (sl (some b) r c)) (ho : Od w (some b) r c d)
    (hm : m ≤ r) (hi0 : i0 ≤ 1000000) (hx : Ex d i0 m) :
    Calls Try.prog 41 #[oi q, .int .i64 i0, .int .i64 m] w (DownP b r c m i0 d w) := by
  have hr : r ≤ 1000000 := ho.few
  have HN : Hid _ := not_of hq ho
  have H0 : Hid (Od w (some b) r c d ∧ Ex d i0 m) := ⟨ho, hx⟩
  have HC0 : Hid _ := hc
  clear ho hx hq hc
  unfold oi oq
  go_enter Try.func41, Try.ntmps41
  go_wp2
  go_loopg [7] (m - i0) (fun kx s7 wr => ∃ (i : Nat) (dk : Nat → El), s7 = .int .i64 i ∧ m - i ≤ kx ∧ i0 ≤ i ∧ i ≤ 1000000 ∧ Hid (Sws m d dk) ∧ Hid (Ex dk i m) ∧ Hid (Od wr (some b) r c dk) ∧ Hid (Keep (OF (some b) r d) w wr) ∧ Hid (wr.cell? ⟨q, 1, none⟩ = some (sl (some b) r c)) ∧ Hid ((i = i0 ∧ dk = d) ∨ (i0 < i ∧ ¬ (dk i).Lt (dk ((i - 1) / 2)))))
  case atStart => exact ⟨i0, d, rfl, Nat.le_refl _, Nat.le_refl _, hi0, Sws.refl _, H0.out.2, H0.out.1, Keep.refl _ _, HC0, .inl ⟨rfl, rfl⟩⟩
  case round =>
    clear H0 HC0
    obtain ⟨i, dk, rfl, hik, hi1, hi2, HS, HX, HO, HK, HC, HD⟩ := hrel
    by_cases h1 : m ≤ 2 * i + 1
    · have h1z : (m : Int) ≤ 2 * (i : Int) + 1 := by omega
      go_wp2
      go_ret
      exact downP (Kids.none h1) HX.out HD.out HS.out HO.out HK.out
    · have h1z : ¬ ((m : Int) ≤ 2 * (i : Int) + 1) := by omega
      have h1y : ¬ (2 * (i : Int) + 1 < 0) := by omega
      by_cases h2 : 2 * i + 2 < m
      · have h2z : 2 * (i : Int) + 1 + 1 < (m : Int) := by omega
        by_cases hl : (dk (2 * i + 2)).Lt (dk (2 * i + 1))
        · -- the right child
          have mL1 := m_less HC.out
          have cL1 := less_any b r c dk (2 * i + 2) (2 * i + 1) (by omega) (by omega) wr HO.out
          rw [decide_eq_true hl, show ((2 * i + 2 : Nat) : Int) = 2 * (i : Int) + 1 + 1 by omega, show ((2 * i + 1 : Nat) : Int) = 2 * (i : Int) + 1 by omega] at cL1
          have hkid : kid dk i m = 2 * i + 2 := by unfold kid; rw [if_pos ⟨by omega, hl⟩]
          have hci : ((2 * i + 2 : Nat) : Int) = 2 * (i : Int) + 1 + 1 := by omega
          have mL2 := fun k => m_less (w := (wr.drewN k)) HC.out
          have cL2 := fun k => less_any b r c dk (2 * i + 2) i (by omega) (by omega) (wr.drewN k) (HO.out.drewN k)
          have HKd : Hid _ := hkid
          by_cases hl2 : (dk (2 * i + 2)).Lt (dk i)
          · have HL2 : Hid _ := hl2
            simp only [decide_eq_true hl2, hci] at cL2
            have mS := fun k k2 => m_swap (w := (wr.drewN (k + k2))) HC.out
            have cS := fun k k2 => swap_any b r c dk i (2 * i + 2) (by omega) (by omega) (wr.drewN (k + k2)) (HO.out.drewN (k + k2))
            simp only [hci] at cS
            clear hl2 hkid hl
            go_wp2_with (first
                | (go_at_call 62; refine cL1.mono ?_; clear cL1 mL1; rintro e w1 ⟨rfl, k, rfl⟩; replace mL2 := mL2 k; replace cL2 := cL2 k)
                | (go_at_call 62; refine cL2.mono ?_; clear cL2 mL2; rintro e w1 ⟨rfl, k2, rfl⟩; have mS1 := mS k k2; clear mS)
                | (go_at_call 63; refine (cS k k2).mono ?_; clear cS; rintro e w1 ⟨rfl, HO1, HK1⟩))
            have HKe := HKd.out
            have E1 := HX.out.down (by omega) (by rw [HKe]; exact HL2.out)
            rw [HKe] at E1
            have E2 : ∀ k, OF (some b) r dk k ↔ OF (some b) r d k := fun k => HS.out.of hm
            have K1 : Keep (OF (some b) r d) w w1 := HK.out.trans ((Keep.drewN_l (k + k2) HK1).mono fun k h => (E2 k).1 h)
            have C1 : w1.cell? ⟨q, 1, none⟩ = some (sl (some b) r c) := HK1.cell (p := ⟨q, 1, none⟩) HC.out (fun h => HN.out ((E2 q).1 h))
            go_roundg (m - (2 * i + 2))
            case measure => omega
            case rel => exact ⟨2 * i + 2, sw dk i (2 * i + 2), by rw [hci], Nat.le_refl _, by omega, by omega, .step i (2 * i + 2) HS.out (by omega) (by omega), E1.1, HO1, K1, C1, .inr ⟨by omega, E1.2⟩⟩
          · have HL2 : Hid _ := hl2
            simp only [decide_eq_false hl2, hci] at cL2
            clear hl2 hkid hl
            go_wp2_with (first
                | (go_at_call 62; refine cL1.mono ?_; clear cL1 mL1; rintro e w1 ⟨rfl, k, rfl⟩; replace mL2 := mL2 k; replace cL2 := cL2 k)
                | (go_at_call 62; refine cL2.mono ?_; clear cL2 mL2; rintro e w1 ⟨rfl, k2, rfl⟩))
            go_ret
            exact downP (Kids.of (by rw [HKd.out]; exact HL2.out)) HX.out HD.out HS.out (HO.out.drewN (k + k2)) (HK.out.trans (Keep.drewN_r (k + k2)))
        · -- the left child, of two
          have mL1 := m_less HC.out
          have cL1 := less_any b r c dk (2 * i + 2) (2 * i + 1) (by omega) (by omega) wr HO.out
          rw [decide_eq_false hl, show ((2 * i + 2 : Nat) : Int) = 2 * (i : Int) + 1 + 1 by omega, show ((2 * i + 1 : Nat) : Int) = 2 * (i : Int) + 1 by omega] at cL1
          have hkid : kid dk i m = 2 * i + 1 := by unfold kid; rw [if_neg (fun h => hl h.2)]
          have hci : ((2 * i + 1 : Nat) : Int) = 2 * (i : Int) + 1 := by omega
          have mL2 := fun k => m_less (w := (wr.drewN k)) HC.out
          have cL2 := fun k => less_any b r c dk (2 * i + 1) i (by omega) (by omega) (wr.drewN k) (HO.out.drewN k)
          have HKd : Hid _ := hkid
          by_cases hl2 : (dk (2 * i + 1)).Lt (dk i)
          · have HL2 : Hid _ := hl2
            simp only [decide_eq_true hl2, hci] at cL2
            have mS := fun k k2 => m_swap (w := (wr.drewN (k + k2))) HC.out
            have cS := fun k k2 => swap_any b r c dk i (2 * i + 1) (by omega) (by omega) (wr.drewN (k + k2)) (HO.out.drewN (k + k2))
            simp only [hci] at cS
            clear hl2 hkid hl
            go_wp2_with (first
                | (go_at_call 62; refine cL1.mono ?_; clear cL1 mL1; rintro e w1 ⟨rfl, k, rfl⟩; replace mL2 := mL2 k; replace cL2 := cL2 k)
                | (go_at_call 62; refine cL2.mono ?_; clear cL2 mL2; rintro e w1 ⟨rfl, k2, rfl⟩; have mS1 := mS k k2; clear mS)
                | (go_at_call 63; refine (cS k k2).mono ?_; clear cS; rintro e w1 ⟨rfl, HO1, HK1⟩))
            have HKe := HKd.out
            have E1 := HX.out.down (by omega) (by rw [HKe]; exact HL2.out)
            rw [HKe] at E1
            have E2 : ∀ k, OF (some b) r dk k ↔ OF (some b) r d k := fun k => HS.out.of hm
            have K1 : Keep (OF (some b) r d) w w1 := HK.out.trans ((Keep.drewN_l (k + k2) HK1).mono fun k h => (E2 k).1 h)
            have C1 : w1.cell? ⟨q, 1, none⟩ = some (sl (some b) r c) := HK1.cell (p := ⟨q, 1, none⟩) HC.out (fun h => HN.out ((E2 q).1 h))
            go_roundg (m - (2 * i + 1))
            case measure => omega
            case rel => exact ⟨2 * i + 1, sw dk i (2 * i + 1), by rw [hci], Nat.le_refl _, by omega, by omega, .step i (2 * i + 1) HS.out (by omega) (by omega), E1.1, HO1, K1, C1, .inr ⟨by omega, E1.2⟩⟩
          · have HL2 : Hid _ := hl2
            simp only [decide_eq_false hl2, hci] at cL2
            clear hl2 hkid hl
            go_wp2_with (first
                | (go_at_call 62; refine cL1.mono ?_; clear cL1 mL1; rintro e w1 ⟨rfl, k, rfl⟩; replace mL2 := mL2 k; replace cL2 := cL2 k)
                | (go_at_call 62; refine cL2.mono ?_; clear cL2 mL2; rintro e w1 ⟨rfl, k2, rfl⟩))
            go_ret
            exact downP (Kids.of (by rw [HKd.out]; exact HL2.out)) HX.out HD.out HS.out (HO.out.drewN (k + k2)) (HK.out.trans (Keep.drewN_r (k + k2)))
      · -- one child
        have h2z : ¬ (2 * (i : Int) + 1 + 1 < (m : Int)) := by omega
        have hkid : kid dk i m = 2 * i + 1 := by unfold kid; rw [if_neg (fun h => by omega)]
        have hci : ((2 * i + 1 : Nat) : Int) = 2 * (i : Int) + 1 := by omega
        have mL2 := m_less (w := wr) HC.out
        have cL2 := less_any b r c dk (2 * i + 1) i (by omega) (by omega) wr HO.out
        have HKd : Hid _ := hkid
        by_cases hl2 : (dk (2 * i + 1)).Lt (dk i)
        · have HL2 : Hid _ := hl2
          simp only [decide_eq_true hl2, hci] at cL2
          have mS := fun k2 => m_swap (w := (wr.drewN k2)) HC.out
          have cS := fun k2 => swap_any b r c dk i (2 * i + 1) (by omega) (by omega) (wr.drewN k2) (HO.out.drewN k2)
          simp only [hci] at cS
          clear hl2 hkid 
          go_wp2_with (first
              | (go_at_call 62; refine cL2.mono ?_; clear cL2 mL2; rintro e w1 ⟨rfl, k2, rfl⟩; have mS1 := mS k2; clear mS)
              | (go_at_call 63; refine (cS k2).mono ?_; clear cS; rintro e w1 ⟨rfl, HO1, HK1⟩))
          have HKe := HKd.out
          have E1 := HX.out.down (by omega) (by rw [HKe]; exact HL2.out)
          rw [HKe] at E1
          have E2 : ∀ k, OF (some b) r dk k ↔ OF (some b) r d k := fun k => HS.out.of hm
          have K1 : Keep (OF (some b) r d) w w1 := HK.out.trans ((Keep.drewN_l k2 HK1).mono fun k h => (E2 k).1 h)
          have C1 : w1.cell? ⟨q, 1, none⟩ = some (sl (some b) r c) := HK1.cell (p := ⟨q, 1, none⟩) HC.out (fun h => HN.out ((E2 q).1 h))
          go_roundg (m - (2 * i + 1))
          case measure => omega
          case rel => exact ⟨2 * i + 1, sw dk i (2 * i + 1), by rw [hci], Nat.le_refl _, by omega, by omega, .step i (2 * i + 1) HS.out (by omega) (by omega), E1.1, HO1, K1, C1, .inr ⟨by omega, E1.2⟩⟩
        · have HL2 : Hid _ := hl2
          simp only [decide_eq_false hl2, hci] at cL2
          clear hl2 hkid 
          go_wp2_with (first
              | (go_at_call 62; refine cL2.mono ?_; clear cL2 mL2; rintro e w1 ⟨rfl, k2, rfl⟩))
          go_ret
          exact downP (Kids.of (by rw [HKd.out]; exact HL2.out)) HX.out HD.out HS.out (HO.out.drewN k2) (HK.out.trans (Keep.drewN_r k2))

end Go.Proofs.Ytfakcjelibdnbaa
