/- LeaseDrop: a lease that is dropped is as if it had not been. -/
import Derived.Test.YtfakcjelibdnbaaHlS
namespace Go.Proofs.Ytfakcjelibdnbaa
open Go.RowKit Go.Joins

/-- A call's key, and whether it is one that goes. -/
def ky (op : Nat → Opx) (j : Nat) : ByteArray := cut30 (op j).k
def gB (op : Nat → Opx) (g : Nat → Bool) (m : Nat) (k : ByteArray) : Bool := (List.range m).any fun j => g j && decide (ky op j = k)
def mGo (n0 n1 : Nat) : Nat := min (min n0 200) n1

theorem str_beq2 (s t : ByteArray) : (s.toList == t.toList) = decide (s = t) := by
  by_cases h : s = t
  · subst h; simp
  · rw [decide_eq_false h, beq_eq_false_iff_ne]
    intro e
    rw [Lib.toList_data, Lib.toList_data] at e
    exact h (ba_ext e)

theorem gB_no {op : Nat → Opx} {g : Nat → Bool} {m : Nat} {k : ByteArray} (h : ∀ j, j < m → (g j && decide (ky op j = k)) = false) : gB op g m k = false := by
  unfold gB
  rw [List.any_eq_false]
  intro j hj
  rw [h j (List.mem_range.1 hj)]
  decide
theorem gB_yes {op : Nat → Opx} {g : Nat → Bool} {m j : Nat} {k : ByteArray} (hj : j < m) (h : (g j && decide (ky op j = k)) = true) : gB op g m k = true := by
  unfold gB
  rw [List.any_eq_true]
  exact ⟨j, List.mem_range.2 hj, h⟩

/-- Those that stay. -/
def stay (p : ByteArray → Bool) (L : Le) : Le := L.filter fun x => !p x.1
theorem stay_drp (p : ByteArray → Bool) (L : Le) {k : ByteArray} (h : p k = true) : stay p (drp L k) = stay p L := by
  unfold stay drp
  rw [List.filter_filter]
  apply List.filter_congr
  intro x _
  by_cases e : x.1 = k
  · simp [e, h]
  · simp [e]
theorem stay_sets_go (p : ByteArray → Bool) (L : Le) {k : ByteArray} (e : Nat) (h : p k = true) : stay p (sets L k e) = stay p L := by
  unfold sets
  have : stay p (drp L k ++ [(k, e)]) = stay p (drp L k) := by
    unfold stay
    rw [List.filter_append]
    simp [h]
  rw [this, stay_drp p L h]
theorem stay_sets_not (p : ByteArray → Bool) (L : Le) {k : ByteArray} (e : Nat) (h : p k = false) : stay p (sets L k e) = sets (stay p L) k e := by
  unfold sets stay drp
  rw [List.filter_append, List.filter_filter, List.filter_filter]
  congr 1
  · apply List.filter_congr
    intro x _
    exact Bool.and_comm _ _
  · simp [h]
theorem stay_all {p : ByteArray → Bool} {L : Le} (h : ∀ x ∈ L, p x.1 = false) : stay p L = L := by
  unfold stay
  rw [List.filter_eq_self]
  intro x hx
  simp [h x hx]

set_option maxHeartbeats 2000000 in
theorem goes_any (a0 : Option Addr) (n0 c0 : Nat) (op : Nat → Opx) (a1 : Option Addr) (n1 c1 : Nat) (g : Nat → Bool) (bo bg : Nat) (k : ByteArray) (w : World) (hO : LRd w a0 n0 c0 op) (hG : BRd w a1 n1 c1 g)
    (ho : w.cell? ⟨bo, 0, none⟩ = some (.slice a0 n0 c0)) (hg : w.cell? ⟨bg, 0, none⟩ = some (.slice a1 n1 c1)) :
    Calls Try.prog 24 #[.string k, .pointer (some ⟨bo, 0, none⟩), .pointer (some ⟨bg, 0, none⟩)] w fun e w' => e = .returned (.bool (gB op g (mGo n0 n1) k)) ∧ w' = w := by
  have hcap0 := hO.cap
  have hcap1 := hG.cap
  have hm0 : c0 ≤ 9223372036854775807 := by have := hO.most; unfold maxLen at this; omega
  have hm1 : c1 ≤ 9223372036854775807 := by have := hG.most; unfold maxLen at this; omega
  have HO : Hid (LRd w a0 n0 c0 op) := hO
  have HG : Hid (BRd w a1 n1 c1 g) := hG
  have HM : Hid (∀ j, j < mGo n0 n1 ↔ (j < n0 ∧ j < 200 ∧ j < n1)) := fun j => by unfold mGo; omega
  clear hO hG
  go_enter Try.func24, Try.ntmps24
  go_wp2
  go_loopg [5] 200 (fun kx s5 wr => ∃ j : Nat, s5 = .int .i64 j ∧ j + kx = 200 ∧ wr = w ∧ Hid (∀ i, i < j → (g i && decide (ky op i = k)) = false))
  case atStart => exact ⟨0, rfl, rfl, rfl, fun i hi => (by omega)⟩
  case round =>
    obtain ⟨j, rfl, hjk, rfl, HN⟩ := hrel
    by_cases h1 : j < n0
    · have h1z : (j : Int) < (n0 : Int) := by omega
      by_cases h2 : j < 200
      · have h2z : (j : Int) < 200 := by omega
        by_cases h3 : j < n1
        · have h3z : (j : Int) < (n1 : Int) := by omega
          obtain ⟨b, off, rfl, hce⟩ := HO.out.flat (by omega)
          have q2 := (hce j h1).c2
          obtain ⟨b1, off1, rfl, hce1⟩ := HG.out.flat (by omega)
          have q1 := hce1 j h3
          clear hce hce1
          have cT := text30 (op j).k wr
          have hsb := str_beq2 (cut30 (op j).k) k
          have HE : Hid (ky op j = cut30 (op j).k) := rfl
          cases hgj : g j with
          | false =>
            rw [hgj] at q1
            have HN2 : Hid (∀ i, i < j + 1 → (g i && decide (ky op i = k)) = false) := fun i hi => by
              by_cases e : i = j
              · rw [e, hgj]; rfl
              · exact HN.out i (by omega)
            clear hgj
            go_wp2
            go_roundg (gk - 1)
            case measure => omega
            case rel => exact ⟨j + 1, by go_num, by omega, rfl, HN2⟩
          | true =>
            rw [hgj] at q1
            by_cases hk : cut30 (op j).k = k
            · rw [decide_eq_true hk] at hsb
              have HY : Hid (gB op g (mGo n0 n1) k = true) := gB_yes ((HM.out j).2 ⟨h1, h2, h3⟩) (by rw [hgj, HE.out, decide_eq_true hk]; rfl)
              clear hk hgj
              go_wp2_with (go_at_call 17; refine cT.mono ?_; clear cT; rintro e w5 ⟨rfl, hw⟩; rw [hw]; clear hw w5)
              go_ret
              exact ⟨by rw [HY.out]; rfl, rfl⟩
            · rw [decide_eq_false hk] at hsb
              have HN2 : Hid (∀ i, i < j + 1 → (g i && decide (ky op i = k)) = false) := fun i hi => by
                by_cases e : i = j
                · rw [e, hgj, HE.out, decide_eq_false hk]; rfl
                · exact HN.out i (by omega)
              clear hk hgj
              go_wp2_with (go_at_call 17; refine cT.mono ?_; clear cT; rintro e w5 ⟨rfl, hw⟩; rw [hw]; clear hw w5)
              go_roundg (gk - 1)
              case measure => omega
              case rel => exact ⟨j + 1, by go_num, by omega, rfl, HN2⟩
        · have h3z : ¬ ((j : Int) < (n1 : Int)) := by omega
          go_wp2
          go_ret
          exact ⟨by rw [gB_no fun i hi => HN.out i (by have := (HM.out i).1 hi; omega)]; rfl, rfl⟩
      · have h2z : ¬ ((j : Int) < 200) := by omega
        go_wp2
        go_ret
        exact ⟨by rw [gB_no fun i hi => HN.out i (by have := (HM.out i).1 hi; omega)]; rfl, rfl⟩
    · have h1z : ¬ ((j : Int) < (n0 : Int)) := by omega
      go_wp2
      go_ret
      exact ⟨by rw [gB_no fun i hi => HN.out i (by have := (HM.out i).1 hi; omega)]; rfl, rfl⟩

/-- Between two rounds of the first loop: what stays of the one is the other. -/
structure Dr (p : ByteArray → Bool) (op : Nat → Opx) (m : Nat) (La Lb : Le) : Prop where
  st : Lb = stay p La
  ks : ∀ x ∈ La, ∃ j, j < m ∧ x.1 = ky op j
theorem Dr.mono {p : ByteArray → Bool} {op : Nat → Opx} {m n : Nat} {La Lb : Le} (h : Dr p op m La Lb) (hn : m ≤ n) : Dr p op n La Lb :=
  ⟨h.st, fun x hx => by obtain ⟨j, hj, e⟩ := h.ks x hx; exact ⟨j, by omega, e⟩⟩
theorem Dr.ks_sets {p : ByteArray → Bool} {op : Nat → Opx} {m : Nat} {La Lb : Le} (h : Dr p op m La Lb) (e : Nat) : ∀ x ∈ sets La (ky op m) e, ∃ j, j < m + 1 ∧ x.1 = ky op j := fun x hx => by
  rcases List.mem_append.1 hx with g | g
  · obtain ⟨j, hj, e⟩ := h.ks x (drp_keys.1 g).1
    exact ⟨j, by omega, e⟩
  · rw [List.mem_singleton.1 g]; exact ⟨m, by omega, rfl⟩
theorem Dr.go {p : ByteArray → Bool} {op : Nat → Opx} {m : Nat} {La Lb : Le} (h : Dr p op m La Lb) (e : Nat) (hp : p (ky op m) = true) : Dr p op (m + 1) (sets La (ky op m) e) Lb :=
  ⟨by rw [stay_sets_go p La e hp]; exact h.st, h.ks_sets e⟩
theorem Dr.not {p : ByteArray → Bool} {op : Nat → Opx} {m : Nat} {La Lb : Le} (h : Dr p op m La Lb) (e : Nat) (hp : p (ky op m) = false) : Dr p op (m + 1) (sets La (ky op m) e) (sets Lb (ky op m) e) :=
  ⟨by rw [stay_sets_not p La e hp, h.st], h.ks_sets e⟩

/-- Between two rounds of the second loop: what goes and is still there comes later. -/
structure Ds (p : ByteArray → Bool) (op : Nat → Opx) (m i : Nat) (La Lb : Le) : Prop where
  st : Lb = stay p La
  ks : ∀ x ∈ La, p x.1 = true → ∃ j, i ≤ j ∧ j < m ∧ x.1 = ky op j
theorem Ds.not {p : ByteArray → Bool} {op : Nat → Opx} {m i : Nat} {La Lb : Le} (h : Ds p op m i La Lb) (hp : p (ky op i) = false) : Ds p op m (i + 1) La Lb :=
  ⟨h.st, fun x hx hq => by
    obtain ⟨j, h1, h2, e⟩ := h.ks x hx hq
    refine ⟨j, ?_, h2, e⟩
    by_cases g : j = i
    · subst g; rw [e, hp] at hq; cases hq
    · omega⟩
theorem Ds.go {p : ByteArray → Bool} {op : Nat → Opx} {m i : Nat} {La Lb : Le} (h : Ds p op m i La Lb) (hp : p (ky op i) = true) : Ds p op m (i + 1) (drp La (ky op i)) Lb :=
  ⟨by rw [stay_drp p La hp]; exact h.st, fun x hx hq => by
    obtain ⟨j, h1, h2, e⟩ := h.ks x (drp_keys.1 hx).1 hq
    refine ⟨j, ?_, h2, e⟩
    by_cases g : j = i
    · subst g; exact absurd e (drp_keys.1 hx).2
    · omega⟩
theorem Ds.done {p : ByteArray → Bool} {op : Nat → Opx} {m i : Nat} {La Lb : Le} (h : Ds p op m i La Lb) (hi : m ≤ i) : Lb = La := by
  rw [h.st]
  apply stay_all
  intro x hx
  cases hq : p x.1 with
  | false => rfl
  | true => obtain ⟨j, h1, h2, _⟩ := h.ks x hx hq; omega

set_option maxRecDepth 100000 in
set_option maxHeartbeats 8000000 in
theorem drop_law (a0 : Option Addr) (n0 c0 : Nat) (op : Nat → Opx) (a1 : Option Addr) (n1 c1 : Nat) (g : Nat → Bool) (w : World) (hO : LRd w a0 n0 c0 op) (hG : BRd w a1 n1 c1 g) :
    Calls Try.prog 7 #[.slice a0 n0 c0, .slice a1 n1 c1] w fun e w' => e = .returned (.bool true) ∧ Below w.heap.size w w' := by
  have hf := run_from
  have hmf : ∀ (fn : Fn) (first cap : Array Value) (w : World), (Instr.makeFunc fn first cap).run Try.prog w = .ok (.func fn first cap) w := fun _ _ _ _ => rfl
  have hcap0 := hO.cap
  have hm0 : c0 ≤ 9223372036854775807 := by have := hO.most; unfold maxLen at this; omega
  go_enter Try.func7, Try.ntmps7
  go_upto_region 1 with fail
  have hbl : Below w.heap.size w ((w.alloc (.cells #[.slice a0 n0 c0] 22)).alloc (.cells #[.slice a1 n1 c1] 59)) := ((Below.refl _ _).alloc (Nat.le_refl _) _).alloc (by simp) _
  have hbo : ((w.alloc (.cells #[.slice a0 n0 c0] 22)).alloc (.cells #[.slice a1 n1 c1] 59)).cell? ⟨w.heap.size, 0, none⟩ = some (.slice a0 n0 c0) := by
    have h1 := alloc_at w (.cells #[.slice a0 n0 c0] 22)
    have h2 := Below.heap_alloc (w.alloc (.cells #[.slice a0 n0 c0] 22)) (.cells #[.slice a1 n1 c1] 59) w.heap.size (by simp)
    rw [cell_of_block (h2.trans h1)]; rfl
  have hbg : ((w.alloc (.cells #[.slice a0 n0 c0] 22)).alloc (.cells #[.slice a1 n1 c1] 59)).cell? ⟨w.heap.size + 1, 0, none⟩ = some (.slice a1 n1 c1) := by
    have h1 := alloc_at (w.alloc (.cells #[.slice a0 n0 c0] 22)) (.cells #[.slice a1 n1 c1] 59)
    have e : (w.alloc (.cells #[.slice a0 n0 c0] 22)).heap.size = w.heap.size + 1 := by simp
    rw [e] at h1
    rw [cell_of_block h1]; rfl
  obtain ⟨w0, hw0⟩ : ∃ w0, (w.alloc (.cells #[.slice a0 n0 c0] 22)).alloc (.cells #[.slice a1 n1 c1] 59) = w0 := ⟨_, rfl⟩
  rw [hw0] at hbl hbo hbg ⊢
  obtain ⟨bo, hbo0⟩ : ∃ bo, w.heap.size = bo := ⟨_, rfl⟩
  have HB0 : Hid (Below w.heap.size w w0) := hbl
  have HO : Hid (LRd w0 a0 n0 c0 op) := hO.below hbl
  have HG : Hid (BRd w0 a1 n1 c1 g) := hG.below hbl
  have HC : Hid (w0.cell? ⟨w.heap.size, 0, none⟩ = some (.slice a0 n0 c0) ∧ w0.cell? ⟨w.heap.size + 1, 0, none⟩ = some (.slice a1 n1 c1)) := ⟨hbo, hbg⟩
  rw [hbo0] at HC ⊢
  have HZ : Hid (w.heap.size = bo) := hbo0
  clear hw0 hO hG hbl hbo hbg hbo0
  have cA := new_any w0
  go_upto_block 0 with (first
    | (go_at_call 8; refine cA.mono ?_; clear cA; rintro e w1 ⟨qa, Fa, rfl, hNa⟩; have cB := new_any w1)
    | (go_at_call 8; refine cB.mono ?_; clear cB; rintro e w2 ⟨qb, Fb, rfl, hNb⟩; have cW := wakes_any w2)
    | (go_at_call 9; refine cW.mono ?_; clear cW; rintro e w3 ⟨rfl, hb3⟩))
  have H0 : Hid (Duo w0 qa qb 0 0 [] [] Fa Fb w3) := (Duo.new hNa hNb).below hb3
  clear hNa hNb hb3
  go_cut [8, 9, 10] from 28 to 61 (fun _ _ _ wx => ∃ (ta tb : Nat) (La Lb : Le) (F1 F2 : Nat → Prop), ta ≤ 200 ∧ tb ≤ 200 ∧ Hid (Dr (gB op g (mGo n0 n1)) op (min n0 200) La Lb) ∧ Hid (Duo w0 qa qb ta tb La Lb F1 F2 wx))
  case first =>
    go_wp2_with fail
    go_loopg [8, 9, 10] 200 (fun kx s8 _ _ wr => ∃ (i ta tb : Nat) (La Lb : Le) (F1 F2 : Nat → Prop), s8 = .int .i64 i ∧ i + kx = 200 ∧ i ≤ n0 ∧ ta ≤ i ∧ tb ≤ i ∧ Hid (Dr (gB op g (mGo n0 n1)) op i La Lb) ∧ Hid (Duo w0 qa qb ta tb La Lb F1 F2 wr))
    case atStart => exact ⟨0, 0, 0, [], [], Fa, Fb, rfl, rfl, Nat.zero_le _, Nat.le_refl _, Nat.le_refl _, ⟨rfl, fun x hx => (by cases hx)⟩, H0⟩
    case round =>
      clear H0
      obtain ⟨i, ta, tb, La, Lb, F1, F2, rfl, hik, hin, hta, htb, HDr, HD⟩ := hrel
      have hbo := below_cell HD.out.bl HC.out.1
      by_cases h1 : i < n0
      · have h1z : (i : Int) < (n0 : Int) := by omega
        by_cases h2 : i < 200
        · have h2z : (i : Int) < 200 := by omega
          obtain ⟨b, off, rfl, hce⟩ := (HO.out.below HD.out.bl).flat (by omega)
          obtain ⟨_, _, q2, q3, hsz, hfb⟩ := hce i h1
          clear hce
          have cT := text30 (op i).k wr
          have hks := cut30_size (op i).k
          have HY : Hid (ky op i = cut30 (op i).k) := rfl
          generalize (op i).f = fx at q3 hfb
          have hbgr := fun w' (h : Below w0.heap.size w0 w') => goes_any _ n0 c0 op a1 n1 c1 g bo (bo + 1) (cut30 (op i).k) w' (HO.out.below h) (HG.out.below h) (below_cell h HC.out.1) (below_cell h HC.out.2)
          generalize cut30 (op i).k = kk at *
          cases hx : Fl.nan fx with
          | true =>
            have cS := set_nan (w := wr) (q := qa) kk hx
            have cS2 := set_nan (w := wr) (q := qb) kk hx
            have cG := hbgr wr HD.out.bl
            clear hx hbgr
            cases hg : gB op g (mGo n0 n1) kk with
            | true =>
              rw [hg] at cG
              clear hg
              go_wp2_with (first
                | (go_at_call 17; refine cT.mono ?_; clear cT; rintro e w5 ⟨rfl, hw⟩; rw [hw]; clear hw w5)
                | (go_at_call 18; refine cS.mono ?_; clear cS; rintro e w5 ⟨rfl, hw⟩; rw [hw]; clear hw w5)
                | (go_at_call 24; refine cG.mono ?_; clear cG; rintro e w5 ⟨rfl, hw⟩; rw [hw]; clear hw w5))
              go_roundg (gk - 1)
              case measure => omega
              case rel => exact ⟨i + 1, ta, tb, La, Lb, F1, F2, by go_num, by omega, by omega, by omega, by omega, HDr.out.mono (by omega), HD⟩
            | false =>
              rw [hg] at cG
              clear hg
              go_wp2_with (first
                | (go_at_call 17; refine cT.mono ?_; clear cT; rintro e w5 ⟨rfl, hw⟩; rw [hw]; clear hw w5)
                | (go_at_call 18; refine cS.mono ?_; clear cS; rintro e w5 ⟨rfl, hw⟩; rw [hw]; clear hw w5)
                | (go_at_call 24; refine cG.mono ?_; clear cG; rintro e w5 ⟨rfl, hw⟩; rw [hw]; clear hw w5)
                | (go_at_call 18; refine cS2.mono ?_; clear cS2; rintro e w5 ⟨rfl, hw⟩; rw [hw]; clear hw w5))
              go_roundg (gk - 1)
              case measure => omega
              case rel => exact ⟨i + 1, ta, tb, La, Lb, F1, F2, by go_num, by omega, by omega, by omega, by omega, HDr.out.mono (by omega), HD⟩
          | false =>
            have cS := set_any HD.out.ha kk (by omega) hx (by omega)
            have HX : Hid (Fl.nan fx = false) := hx
            clear hx
            cases hg : gB op g (mGo n0 n1) kk with
            | true =>
              simp only [hg] at hbgr
              have HN : Hid (Dr (gB op g (mGo n0 n1)) op (i + 1) (sets La kk fx) Lb) := HY.out ▸ HDr.out.go fx (HY.out ▸ hg)
              clear hg
              go_wp2_with (first
                | (go_at_call 17; refine cT.mono ?_; clear cT; rintro e w5 ⟨rfl, hw⟩; rw [hw]; clear hw w5)
                | (go_at_call 18; refine cS.mono ?_; clear cS; rintro e w5 ⟨rfl, hD⟩; obtain ⟨F3, HD3, _⟩ := HD.out.left hD; have cG := hbgr w5 HD3.bl)
                | (go_at_call 24; refine cG.mono ?_; clear cG; rintro e w6 ⟨rfl, hw⟩; rw [hw]; clear hw w6))
              go_roundg (gk - 1)
              case measure => omega
              case rel => exact ⟨i + 1, ta + 1, tb, _, Lb, F3, F2, by go_num, by omega, by omega, by omega, by omega, HN, HD3⟩
            | false =>
              simp only [hg] at hbgr
              have HN : Hid (Dr (gB op g (mGo n0 n1)) op (i + 1) (sets La kk fx) (sets Lb kk fx)) := HY.out ▸ HDr.out.not fx (HY.out ▸ hg)
              clear hg
              go_wp2_with (first
                | (go_at_call 17; refine cT.mono ?_; clear cT; rintro e w5 ⟨rfl, hw⟩; rw [hw]; clear hw w5)
                | (go_at_call 18; refine cS.mono ?_; clear cS; rintro e w5 ⟨rfl, hD⟩; obtain ⟨F3, HD3, _⟩ := HD.out.left hD; have cG := hbgr w5 HD3.bl; have cS2 := set_any HD3.hb kk (by omega) HX.out (by omega))
                | (go_at_call 24; refine cG.mono ?_; clear cG; rintro e w6 ⟨rfl, hw⟩; rw [hw]; clear hw w6)
                | (go_at_call 18; refine cS2.mono ?_; clear cS2; rintro e w6 ⟨rfl, hD2⟩; obtain ⟨F4, HD4, _⟩ := HD3.right hD2))
              go_roundg (gk - 1)
              case measure => omega
              case rel => exact ⟨i + 1, ta + 1, tb + 1, _, _, F3, F4, by go_num, by omega, by omega, by omega, by omega, HN, HD4⟩
        · have h2z : ¬ ((i : Int) < 200) := by omega
          go_wp2
          go_meet
          exact ⟨ta, tb, La, Lb, F1, F2, by omega, by omega, HDr.out.mono (by omega), HD⟩
      · have h1z : ¬ ((i : Int) < (n0 : Int)) := by omega
        go_wp2
        go_meet
        exact ⟨ta, tb, La, Lb, F1, F2, by omega, by omega, HDr.out.mono (by omega), HD⟩
  case rest =>
  clear H0
  obtain ⟨ta, tb, La, Lb, F1, F2, hta, htb, HDr, HD⟩ := hcut
  go_upto_block 2 with fail
  have H1 : Hid (Ds (gB op g (mGo n0 n1)) op (min n0 200) 0 La Lb) := ⟨HDr.out.st, fun x hx _ => by
    obtain ⟨j, hj, e⟩ := HDr.out.ks x hx
    exact ⟨j, Nat.zero_le _, hj, e⟩⟩
  clear HDr
  go_cut [11, 12, 13, 14] from 62 to 97 (fun _ _ _ _ wx => ∃ (L : Le) (F3 : Nat → Prop), Hid (Duo w0 qa qb ta tb L L F3 F2 wx))
  case first =>
    go_wp2_with fail
    go_loopg [11, 12, 13, 14] 200 (fun kx s11 _ _ _ wr => ∃ (i : Nat) (L1 : Le) (F3 : Nat → Prop), s11 = .int .i64 i ∧ i + kx = 200 ∧ Hid (Ds (gB op g (mGo n0 n1)) op (min n0 200) i L1 Lb) ∧ Hid (Duo w0 qa qb ta tb L1 Lb F3 F2 wr))
    case atStart => exact ⟨0, La, F1, rfl, rfl, H1, HD⟩
    case round =>
      clear H1 HD
      obtain ⟨i, L1, F3, rfl, hik, HDs, HD⟩ := hrel
      have hbo := below_cell HD.out.bl HC.out.1
      by_cases h1 : i < n0
      · have h1z : (i : Int) < (n0 : Int) := by omega
        by_cases h2 : i < 200
        · have h2z : (i : Int) < 200 := by omega
          obtain ⟨b, off, rfl, hce⟩ := (HO.out.below HD.out.bl).flat (by omega)
          obtain ⟨_, _, q2, q3, hsz, hfb⟩ := hce i h1
          clear hce
          have cT := text30 (op i).k wr
          have hks := cut30_size (op i).k
          have HY : Hid (ky op i = cut30 (op i).k) := rfl
          have cG := goes_any _ n0 c0 op a1 n1 c1 g bo (bo + 1) (cut30 (op i).k) wr (HO.out.below HD.out.bl) (HG.out.below HD.out.bl) (below_cell HD.out.bl HC.out.1) (below_cell HD.out.bl HC.out.2)
          generalize cut30 (op i).k = kk at *
          cases hg : gB op g (mGo n0 n1) kk with
          | false =>
            rw [hg] at cG
            have HN : Hid (Ds (gB op g (mGo n0 n1)) op (min n0 200) (i + 1) L1 Lb) := HDs.out.not (HY.out ▸ hg)
            clear hg
            go_wp2_with (first
              | (go_at_call 17; refine cT.mono ?_; clear cT; rintro e w5 ⟨rfl, hw⟩; rw [hw]; clear hw w5)
              | (go_at_call 24; refine cG.mono ?_; clear cG; rintro e w5 ⟨rfl, hw⟩; rw [hw]; clear hw w5))
            go_roundg (gk - 1)
            case measure => omega
            case rel => exact ⟨i + 1, L1, F3, by go_num, by omega, HN, HD⟩
          | true =>
            rw [hg] at cG
            have HN : Hid (Ds (gB op g (mGo n0 n1)) op (min n0 200) (i + 1) (drp L1 kk) Lb) := HY.out ▸ HDs.out.go (HY.out ▸ hg)
            have cE := end_any HD.out.ha kk (by omega)
            have cD := drop_any HD.out.ha kk (by omega)
            generalize (lk L1 kk).getD 0 = xx at cE
            generalize (lk L1 kk).isSome = bb at cE cD
            clear hg
            cases bb
            · go_wp2_with (first
                | (go_at_call 17; refine cT.mono ?_; clear cT; rintro e w5 ⟨rfl, hw⟩; rw [hw]; clear hw w5)
                | (go_at_call 24; refine cG.mono ?_; clear cG; rintro e w5 ⟨rfl, hw⟩; rw [hw]; clear hw w5)
                | (go_at_call 19; refine cE.mono ?_; clear cE; rintro e w5 ⟨rfl, hw⟩; rw [hw]; clear hw w5)
                | (go_at_call 25; refine cD.mono ?_; clear cD; rintro e w5 ⟨rfl, hD⟩; obtain ⟨F4, HD4, _⟩ := HD.out.left hD.dn; have cD2 := drop_any HD4.ha kk (by omega); rw [lk_drp, drp_none (fun p hp => (drp_keys.1 hp).2)] at cD2)
                | (go_at_call 25; refine cD2.mono ?_; clear cD2; rintro e w6 ⟨rfl, hD2⟩; obtain ⟨F5, HD5, _⟩ := HD4.left hD2.dn))
              go_roundg (gk - 1)
              case measure => omega
              case rel => exact ⟨i + 1, _, F5, by go_num, by omega, HN, HD5⟩
            · go_wp2_with (first
                | (go_at_call 17; refine cT.mono ?_; clear cT; rintro e w5 ⟨rfl, hw⟩; rw [hw]; clear hw w5)
                | (go_at_call 24; refine cG.mono ?_; clear cG; rintro e w5 ⟨rfl, hw⟩; rw [hw]; clear hw w5)
                | (go_at_call 19; refine cE.mono ?_; clear cE; rintro e w5 ⟨rfl, hw⟩; rw [hw]; clear hw w5)
                | (go_at_call 25; refine cD.mono ?_; clear cD; rintro e w5 ⟨rfl, hD⟩; obtain ⟨F4, HD4, _⟩ := HD.out.left hD.dn; have cD2 := drop_any HD4.ha kk (by omega); rw [lk_drp, drp_none (fun p hp => (drp_keys.1 hp).2)] at cD2)
                | (go_at_call 25; refine cD2.mono ?_; clear cD2; rintro e w6 ⟨rfl, hD2⟩; obtain ⟨F5, HD5, _⟩ := HD4.left hD2.dn))
              go_roundg (gk - 1)
              case measure => omega
              case rel => exact ⟨i + 1, _, F5, by go_num, by omega, HN, HD5⟩
        · have h2z : ¬ ((i : Int) < 200) := by omega
          have HE : Hid (Lb = L1) := HDs.out.done (by omega)
          go_wp2
          go_meet
          exact ⟨L1, F3, HE.out ▸ HD.out⟩
      · have h1z : ¬ ((i : Int) < (n0 : Int)) := by omega
        have HE : Hid (Lb = L1) := HDs.out.done (by omega)
        go_wp2
        go_meet
        exact ⟨L1, F3, HE.out ▸ HD.out⟩
  case rest =>
  clear H1 HD
  obtain ⟨L, F3, HD⟩ := hcut
  have cI := fun w => infP_any w
  have cL1 := lenH_any HD.out.ha
  have cL2 := lenH_any HD.out.hb
  have cD := due_any HD.out.ha Fl.inf (by omega)
  have HE : Hid ((due L Fl.inf).2 = []) := due_all _ L (Nat.le_refl _) HD.out.ha.nk HD.out.ha.num
  generalize (L.length : Int) = ln at cL1 cL2
  go_wp2_with (first
    | (go_at_call 15; refine cL1.mono ?_; clear cL1; rintro e w5 ⟨rfl, hw⟩; rw [hw]; clear hw w5)
    | (go_at_call 15; refine cL2.mono ?_; clear cL2; rintro e w5 ⟨rfl, hw⟩; rw [hw]; clear hw w5)
    | (go_at_call 13; refine (cI _).mono ?_; rintro e w5 ⟨rfl, hw⟩; rw [hw]; clear hw w5)
    | (go_at_call 12; refine cD.mono ?_; clear cD; rintro e w5 ⟨v5, rfl, hP⟩; obtain ⟨a5, c5, rfl, hS5⟩ := SRd.ofOwn hP.row; obtain ⟨F5, hD5, _, _⟩ := HD.out.leftL hP.dl; have hfar : ∀ ad, a5 = some ad → ¬ F2 ad.block := (fun ad ha hF => by
        have h1 := HD.out.hb.lt hF
        rcases hP.row.2 with ⟨e, _⟩ | ⟨g5, cap, cur, e, hg5, _⟩
        · rw [ha] at e; cases e
        · rw [ha] at e
          injection e with e _ _
          have e2 : ad = ⟨g5, 0, none⟩ := Option.some.inj e
          rw [e2] at h1
          have h3 : g5 < wc.heap.size := h1
          omega); clear hP; have cD2 := due_any hD5.hb Fl.inf (by omega))
    | (go_at_call 12; refine cD2.mono ?_; clear cD2; rintro e w7 ⟨v7, rfl, hP⟩; obtain ⟨a7, c7, rfl, hS7⟩ := SRd.ofOwn hP.row; obtain ⟨F7, hD7, _, hk7⟩ := hD5.swap.leftL hP.dl; clear hP)
    | (go_at_call 11; refine (kSame_true a5 _ c5 a7 c7 (due L Fl.inf).1 w7 (hS5.keep hk7 hfar) hS7).mono ?_; rintro e w8 ⟨rfl, hb8⟩; have cL := lenH_any (hD7.hb.below hb8); rw [HE.out] at cL)
    | (go_at_call 15; refine cL.mono ?_; clear cL; rintro e w9 ⟨rfl, hw⟩; rw [hw]; clear hw w9))
  go_ret
  exact ⟨rfl, HB0.out.trans ((hD7.bl.trans (hb8.mono hD7.bl.size)).mono HB0.out.size)⟩

end Go.Proofs.Ytfakcjelibdnbaa
