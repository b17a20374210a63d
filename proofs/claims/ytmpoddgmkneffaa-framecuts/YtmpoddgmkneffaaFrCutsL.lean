/- FrameCuts: whatever bound, whatever stream and however it is cut into pieces: a reader that is fed the whole and one that is fed the pieces tell the same payloads and the same error, and hold as many bytes; the law returns true and nothing that was there is written. For every input, no condition. -/
import Derived.Test.YtmpoddgmkneffaaRows
import Derived.Test.YtmpoddgmkneffaaFrCutP
namespace Go.Proofs.Ytmpoddgmkneffaa.frameCuts
open Go.ChangeShapes Go.WideShapes Go.ChangeAt Go.RowKit
open Go.Proofs.Ytmpoddgmkneffaa

theorem tm40 (z : Int) : -40 < z.tmod 40 ∧ z.tmod 40 < 40 := by
  rcases z with n | n
  · have : (Int.ofNat n).tmod 40 = ((n % 40 : Nat) : Int) := rfl
    rw [this]; omega
  · have : (Int.negSucc n).tmod 40 = -(((n + 1) % 40 : Nat) : Int) := rfl
    rw [this]; omega
theorem kk_of (z : Int) : ∃ kk : Nat, wrap64 ((wrap64 (z.tmod 40 + 40)).tmod 40) = kk ∧ kk < 40 := by
  have h := tm40 z
  obtain ⟨y, hy⟩ : ∃ y : Nat, z.tmod 40 + 40 = y := ⟨(z.tmod 40 + 40).toNat, by omega⟩
  have e1 : wrap64 (y : Int) = y := by unfold wrap64; omega
  have e2 : ((y : Int)).tmod 40 = ((y % 40 : Nat) : Int) := rfl
  have e3 : wrap64 ((y % 40 : Nat) : Int) = ((y % 40 : Nat) : Int) := by unfold wrap64; omega
  exact ⟨y % 40, by rw [hy, e1, e2, e3], by omega⟩

/-- What holds behind one more piece. -/
theorem next_all {w6 wr w3 w4 w5 : World} {p2 M : Nat} {am am' : Option Addr} {cm cm' : Nat} {vm vn : List Value} {ms : List (List Int)} {h2 : List Int} {v2 v2' : Value} {r : List (List Int) × List Int × Bool}
    (hp : p2 < w6.heap.size) (hrow : wr.ownsRow w6.heap.size 31 1 (.slice am ms.length cm) ms.length vm) (hPm : PRd wr w6.heap.size vm ms) (hv2 : ∀ k, v2.ownBlock = some k → w6.heap.size ≤ k ∧ ∀ u ∈ vm, u.ownBlock ≠ some k)
    (ho2 : wr.ownsRow 0 5 1 v2 h2.length (bc h2)) (hK : Keep (fun k => k = p2) w6 wr) (hb3 : Below wr.heap.size wr w3)
    (hC4 : RC w4 p2 M v2' r.2.2) (ho4 : w4.ownsRow 0 5 1 v2' r.2.1.length (bc r.2.1)) (hw4 : ∀ k, v2'.ownBlock = some k → v2.ownBlock = some k ∨ w3.heap.size ≤ k) (hP4 : Pays w4 w3.heap.size vn r.1) (hd4 : ∀ k, v2'.ownBlock = some k → ∀ u ∈ vn, ∀ j, u.ownBlock = some j → j < k)
    (hK4 : Keep (fun k => k = p2 ∨ v2.ownBlock = some k) w3 w4) :
    w4.ownsRow w6.heap.size 31 1 (.slice am ms.length cm) ms.length vm ∧
    (w5.ownsRow w6.heap.size 31 1 (.slice am' (ms.length + r.1.length) cm') (ms.length + r.1.length) (vm ++ vn) → w4.grownBy w5 (Value.slice am ms.length cm).ownBlock →
      w5.ownsRow w6.heap.size 31 1 (.slice am' (ms ++ r.1).length cm') (ms ++ r.1).length (vm ++ vn) ∧ PRd w5 w6.heap.size (vm ++ vn) (ms ++ r.1) ∧ RC w5 p2 M v2' r.2.2 ∧ w5.ownsRow 0 5 1 v2' r.2.1.length (bc r.2.1) ∧
      (∀ k, v2'.ownBlock = some k → w6.heap.size ≤ k ∧ ∀ u ∈ vm ++ vn, u.ownBlock ≠ some k) ∧ Keep (fun k => k = p2) w6 w5) := by
  have z1 := hK.size
  have z2 := hb3.size
  have z3 := hK4.size
  have hk3 : Keep (fun _ => False) wr w3 := Keep.ofBelow hb3
  have hrow3 := own_keep hrow hk3 (fun _ _ h => h)
  have ho3 := own_keep ho2 hk3 (fun _ _ h => h)
  have hm4 : w4.ownsRow w6.heap.size 31 1 (.slice am ms.length cm) ms.length vm := own_keep hrow3 hK4 (fun k e h => by
    rcases h with h | h
    · have := (hrow.lt k e).1; omega
    · obtain ⟨_, c1, q1⟩ := own_type hrow3 e
      obtain ⟨_, c2, q2⟩ := own_type ho3 h
      rw [q1] at q2
      simp at q2)
  refine ⟨hm4, fun h5 hg => ?_⟩
  have hk5 : Keep (fun k => (Value.slice am ms.length cm).ownBlock = some k) w4 w5 := Keep.ofGrown hg
  have hPm3 := hPm.keep hk3 (fun _ _ _ _ h => h)
  have ty4 : ∀ k c, w4.heap[k]? = some (.cells c 5 (0, 0)) → (Value.slice am ms.length cm).ownBlock ≠ some k := fun k c h e => by
    obtain ⟨_, c1, q1⟩ := own_type hm4 e
    rw [q1] at h
    simp at h
  have hPm4 : PRd w4 w6.heap.size vm ms := hPm3.keep hK4 (fun u hu k e h => by
    rcases h with h | h
    · have := (hPm.blk u hu k e).1; omega
    · exact (hv2 k h).2 u hu e)
  have hPn4 : PRd w4 w6.heap.size vn r.1 := PRd.of hP4 (by omega)
  have hP4' := PRd.append hPn4 hPm4
  refine ⟨by rw [List.length_append]; exact h5, hP4'.keep hk5 (fun u hu k e h => ?_), hC4.keep hk5 (fun e => ?_), own_keep ho4 hk5 (fun k e h => ?_), fun k e => ?_, ?_⟩
  · obtain ⟨_, c, q⟩ := hP4'.blk u hu k e
    exact ty4 k c q h
  · have := (hm4.lt p2 e).1; omega
  · obtain ⟨_, c, q⟩ := own_type ho4 e
    exact ty4 k c q h
  · rcases hw4 k e with h | h
    · refine ⟨(hv2 k h).1, fun u hu e2 => ?_⟩
      have hkl := (ho2.lt k h).2
      rcases List.mem_append.1 hu with g | g
      · exact (hv2 k h).2 u g e2
      · have := (hP4.blk u g k e2).1; omega
    · refine ⟨by omega, fun u hu e2 => ?_⟩
      rcases List.mem_append.1 hu with g | g
      · obtain ⟨_, c, q⟩ := hPm.blk u g k e2
        have := (Array.getElem?_eq_some_iff.1 q).1
        omega
      · have := hd4 k e u g k e2; omega
  · exact ((hK.andThen hk3 (fun _ _ h => h.elim)).andThen hK4 (fun i hi h => h.elim id (fun h => absurd (hv2 i h).1 (by omega)))).andThen hk5 (fun i hi h => absurd (hm4.lt i h).1 (by omega))

def lenV : Value → Nat
  | .slice _ n _ => n
  | _ => 0
def mu (rst i : Value) : Nat := if lenV rst = 0 then 0 else 401 - (intOf i).toNat
theorem mu_lt {a a' : Option Addr} {n n' c c' ii : Nat} (hn : 0 < n) (hi : ii ≤ 400) : mu (.slice a' n' c') (.int .i64 ((ii : Int) + 1)) < mu (.slice a n c) (.int .i64 ii) := by
  unfold mu lenV
  simp only [intOf]
  rw [if_neg (show ¬ n = 0 by omega)]
  by_cases h0 : n' = 0
  · rw [if_pos h0]; omega
  · rw [if_neg h0]; omega

set_option maxHeartbeats 3200000 in
set_option maxRecDepth 100000 in
theorem walk (m1 : Int) (g1 : -9223372036854775808 ≤ m1 ∧ m1 ≤ 9223372036854775807) (az : Option Addr) (ns cs : Nat) (zs : List Int) (ac : Option Addr) (nc cc : Nat) (w : World) (hS : Rd w az ns cs zs) (hnc : nc ≤ 9223372036854775807)
    (hI : 0 < nc → ∃ b off, ac = some ⟨b, off, none⟩ ∧ ∀ j, j < nc → ∃ z, w.cell? ⟨b, off + j, none⟩ = some (.int .i64 z) ∧ -9223372036854775808 ≤ z ∧ z ≤ 9223372036854775807) :
    Calls Try.prog 4 #[.int .i64 m1, .slice az ns cs, .slice ac nc cc] w fun e w' => e = .returned (.bool true) ∧ Below w.heap.size w w' := by
  obtain ⟨R, HR⟩ : ∃ R, Hid (stepS m1.toNat [] false (List.take 3000 (List.take 3000 zs)) = R) := ⟨_, rfl⟩
  have t1 : True := trivial
  have t2 : True := trivial
  go_enter Try.func4, Try.ntmps4
  go_wp2_with (first
    | (go_at_call 16; clear t1; refine (twinR az ns cs zs 3000 _ hS (by omega)).mono ?_; rintro e w1 ⟨ab, nb, cb, rfl, hnb, hrb, hb1, hfb⟩; have hlb := hrb.len)
    | (go_at_call 8; clear t2; refine (new_any m1 _ g1.1 g1.2).mono ?_; rintro e w2 ⟨rfl, hC2, hb2⟩; have l2 := hC2.lt)
    | (go_at_call 8; refine (new_any m1 _ g1.1 g1.2).mono ?_; rintro e w3 ⟨rfl, hC3, hb3⟩; have l3 := hC3.lt)
    | (go_at_call 10; refine (wakes_any _).mono ?_; rintro e w4 ⟨rfl, hb4⟩; have s4 := hb4.size; have hk14 : Keep (fun _ => False) w1 w4 := ((Keep.ofBelow hb2).trans (Keep.ofBelow hb3)).trans (Keep.ofBelow hb4); have hrb4 := hrb.keep hk14 (fun _ _ h => h))
    | (go_at_call 16; refine (twinR ab nb cb (zs.take 3000) 3000 _ hrb4 (by omega)).mono ?_; rintro e w5 ⟨a5, n5, c5, rfl, hn5, hr5, hb5, hf5⟩; have s5 := hb5.size; have hC5 : RC w5 w1.heap.size m1.toNat (.slice none 0 0) false := (hb5.block _ (by omega)).trans ((hb4.block _ (by omega)).trans ((hb3.block _ (by omega)).trans hC2)); have hD5 : RC w5 w2.heap.size m1.toNat (.slice none 0 0) false := (hb5.block _ (by omega)).trans ((hb4.block _ (by omega)).trans hC3))
    | (go_at_call 11; refine (feedN w1.heap.size m1.toNat (.slice none 0 0) [] false a5 n5 c5 _ _ hC5 (World.ownsRow_nil _ _ _ _) Bd.nil (fun h => by cases h) hr5 (by simp; omega) R HR).mono ?_; rintro e w6 ⟨al, cl, vl, v1, rfl, hC6, ho6, hw6, hrow6, hP6, _, hK6⟩))
  have hM : m1.toNat < 9223372036854775808 := by omega
  have hB6 : Below w.heap.size w w6 := ((((hb1.trans (hb2.mono hb1.size)).trans (hb3.mono (by have := hb1.size; omega))).trans (hb4.mono (by have := hb1.size; omega))).trans (hb5.mono (by have := hb1.size; omega))).trans (hK6.below (by have := hb1.size; omega) (fun k h => h.elim (fun h => by have := hb1.size; omega) (fun h => by cases h)))
  have s6 := hK6.size
  have hs1 := hb1.size
  have hD6 : RC w6 w2.heap.size m1.toNat (.slice none 0 0) false := hD5.keep hK6 (fun h => h.elim (fun h => by omega) (fun h => by cases h))
  have hrb5 := hrb4.carry (Nat.le_refl _) hb5
  have hrb6 : Rd w6 ab nb cb (zs.take 3000) := hrb5.keepN hK6 (fun hn ad ha h => h.elim (fun h => hC5.not_rd hrb5 hn ha h) (fun h => by cases h))
  have HRs : Hid (cut m1.toNat (zs.take 3000) = R) := by
    have h := HR.out
    rw [List.take_take] at h
    exact h
  have HRb : Hid (Bd (zs.take 3000)) := hrb6.bytes
  have hslen : (zs.take 3000).length = nb := hlb
  generalize zs.take 3000 = sl at hrb6 HRs HRb hslen
  generalize m1.toNat = M at hD6 hC6 hM HRs
  have hpW : w2.heap.size < w6.heap.size := by omega
  have hp1 : w1.heap.size ≠ w2.heap.size := by omega
  have hpw : w.heap.size ≤ w2.heap.size := by omega
  have hv1 : ∀ k, v1.ownBlock = some k → w5.heap.size ≤ k := fun k e => (hw6 k e).elim (fun h => by cases h) id
  have hl5 : w2.heap.size < w5.heap.size := by omega
  clear hw6 hK6 hC5 hD5 hr5 hrb hrb4 hrb5 hk14 hC2 hC3 hb1 hb2 hb3 hb4 hb5 hS HR hlb hfb hf5 l2 l3 s4 s5 s6 hs1
  generalize hp2 : w2.heap.size = p2 at hD6 hpW hp1 hpw hl5
  clear hp2
  go_loopw [12, 13, 14, 15] (fun mm f rst i wr => ∃ (ii : Nat) (pre rem : List Int) (ar : Option Addr) (nr cr : Nat) (am : Option Addr) (cm : Nat) (vm : List Value) (ms : List (List Int)) (h2 : List Int) (b2 : Bool) (v2 : Value),
      i = .int .i64 ii ∧ Hid (sl = pre ++ rem) ∧ rst = .slice ar nr cr ∧ Rd w6 ar nr cr rem ∧ mm = .slice am ms.length cm ∧ wr.ownsRow w6.heap.size 31 1 (.slice am ms.length cm) ms.length vm ∧ PRd wr w6.heap.size vm ms ∧ f = .int .i64 (errN b2) ∧
      RC wr p2 M v2 b2 ∧ wr.ownsRow 0 5 1 v2 h2.length (bc h2) ∧ (∀ k, v2.ownBlock = some k → w6.heap.size ≤ k ∧ ∀ u ∈ vm, u.ownBlock ≠ some k) ∧ Hid (cut M pre = (ms, h2, b2)) ∧ Keep (fun k => k = p2) w6 wr ∧ (0 < nr → ii ≤ 400))
    (fun _ _ rst i _ => mu rst i)
  case atStart => exact ⟨0, [], sl, ab, nb, cb, none, 0, [], [], [], false, .slice none 0 0, rfl, (rfl : sl = [] ++ sl), rfl, hrb6, rfl, World.ownsRow_nil _ _ _ _, trivial, rfl, hD6, World.ownsRow_nil _ _ _ _, (fun k h => by cases h), (cut_short (by simp) : cut M [] = _), Keep.refl _ _, fun _ => by omega⟩
  case round =>
    obtain ⟨ii, pre, rem, ar, nr, cr, am, cm, vm, ms, h2, b2, v2, rfl, HS, rfl, hrr, rfl, hrow, hPm, rfl, hC2, ho2, hv2, HC, hK, hii⟩ := hrel
    have hlr := hrr.len
    have hsl2 : sl.length = pre.length + rem.length := by rw [HS.out, List.length_append]
    have hcl := cut_len M pre
    rw [HC.out] at hcl
    have hrbd := hrr.bytes
    have hcap := hrr.cap
    have hmx : cr ≤ 9223372036854775807 := hrr.most
    have hBr : Below w.heap.size w wr := hB6.trans (hK.below (by have := hB6.size; omega) (fun k h => by omega))
    by_cases hn0 : nr = 0
    · subst hn0
      have hrem : rem = [] := List.eq_nil_of_length_eq_zero hlr
      have hR2 : R = (ms, h2, b2) := by rw [← HRs.out, HS.out, hrem, List.append_nil, HC.out]
      subst hR2
      have hrowl := own_keep hrow6 hK (fun k e h => absurd (hrow6.lt k e).1 (by omega))
      have hPl := hP6.keep hK (fun k cur hl _ h => by omega)
      have rl := rrd_of hrowl hPl rfl (by have : ms.length ≤ pre.length := hcl.2; omega)
      have rm := rrd_of' hrow hPm rfl (by have : ms.length ≤ pre.length := hcl.2; omega)
      have hC1 := hC6.keep hK hp1
      obtain ⟨av1, cv1, hv1e⟩ := own_slice ho6
      obtain ⟨av2, cv2, hv2e⟩ := own_slice ho2
      subst hv1e hv2e
      have t3 : True := trivial
      clear hrow6 hP6 hrow hPm hC6 ho6 hrowl hPl HRs HS HC hv1 hv2 ho2 hrr
      go_wp2_with (first
        | (go_at_call 14; refine (same_true al am _ cl cm ms _ rl rm).mono ?_; rintro e wa ⟨rfl, kk, rfl⟩)
        | (go_at_call 15; clear t3; refine (held_any w1.heap.size M av1 h2.length cv1 b2 _ (RC.drewN hC1 _)).mono ?_; rintro e wb ⟨rfl, rfl⟩)
        | (go_at_call 15; refine (held_any p2 M av2 h2.length cv2 b2 _ (RC.drewN hC2 _)).mono ?_; rintro e wc ⟨rfl, rfl⟩))
      go_ret
      exact ⟨rfl, below_drewN hBr _⟩
    · have hn : 0 < nr := by omega
      have hnz : (0 : Int) < (nr : Int) := by omega
      have hi4 := hii hn
      obtain ⟨b, off, rfl, _⟩ := hrr.flat hn
      have hbd2 : Bd h2 := by
        have h := HRb.out
        rw [HS.out] at h
        have h' := (cut_bd (M := M) (l := pre) (fun x hx => h x (List.mem_append_left _ hx))).1
        rw [HC.out] at h'
        exact h'
      have hnil2 : b2 = true → h2 = [] := by
        have h := cut_held M pre
        rw [HC.out] at h
        exact h
      by_cases hA : ii < nc
      · have hAz : (ii : Int) < (nc : Int) := by omega
        by_cases h4 : ii < 400
        · have h4z : (ii : Int) < 400 := by omega
          obtain ⟨bc', oc, rfl, hcells⟩ := hI (by omega)
          obtain ⟨z, hz, hz0, hz1⟩ := hcells ii hA
          have hz' : wr.cell? ⟨bc', oc + ii, none⟩ = some (.int .i64 z) := (hBr.cell (p := ⟨bc', oc + ii, none⟩) (World.block_lt_of_cell? w _ hz)).trans hz
          clear hcells hz
          go_upto_region 15 with fail
          obtain ⟨kk, hkk, hk40⟩ := kk_of z
          rw [hkk]
          clear hkk
          by_cases hgt : nr < kk
          · have hgz : (nr : Int) < (kk : Int) := by omega
            have hKle : nr ≤ nr := by omega
            have hKz : (nr : Int) ≤ (cr : Int) := by omega
            have hKn : (nr : Int) ≤ (nr : Int) := by omega
            have hRk0 : Rd w6 (some ⟨b, off, none⟩) nr cr (rem.take nr) := hrr.take hKle
            have hRk : Rd wr (some ⟨b, off, none⟩) nr cr (rem.take nr) := hRk0.keepN hK (fun h ad e => hD6.not_rd hRk0 h e)
            have htk : (rem.take nr).take 3000 = rem.take nr := List.take_of_length_le (by rw [List.length_take]; omega)
            obtain ⟨Rk, HRk⟩ : ∃ Rk, Hid (stepS M h2 b2 ((rem.take nr).take 3000) = Rk) := ⟨_, rfl⟩
            have HCN : Hid (cut M (pre ++ rem.take nr) = (ms ++ Rk.1, Rk.2)) := by
              have h := cut_step2 (x := rem.take nr) HC.out
              rw [← htk, HRk.out, htk] at h
              exact h
            have hRl : Rk.1.length ≤ 3000 := by
              have h := cut_len M (pre ++ rem.take nr)
              rw [HCN.out, List.length_append, List.length_append, List.length_take] at h
              simp only at h
              omega
            have HSN : Hid (sl = (pre ++ rem.take nr) ++ rem.drop nr) := by
              show sl = _
              rw [List.append_assoc, List.take_append_drop]; exact HS.out
            by_cases hck : cr = nr
            · obtain rfl : nr = cr := hck.symm
              have hRd : Rd w6 (some ⟨b, off, none⟩) 0 0 (rem.drop nr) := by
                rw [List.drop_of_length_le (by omega)]
                exact ⟨rfl, Nat.le_refl _, by unfold maxLen; omega, (fun e => by cases e), Bd.nil, fun _ _ j hj => by omega⟩
              go_wp2_with (first
                | (go_at_call 16; refine (twinR (some ⟨b, off, none⟩) nr nr (rem.take nr) 3000 _ hRk (by omega)).mono ?_; rintro e w3 ⟨a3, n3, c3, rfl, hn3, hr3, hb3, _⟩; have hC3 := (hb3.block p2 hC2.lt).trans hC2; have ho3 := own_keep (S := fun _ => False) ho2 (Keep.ofBelow hb3) (fun _ _ h => h))
                | (go_at_call 11; refine (feedN p2 M v2 h2 b2 a3 n3 c3 _ _ hC3 ho3 hbd2 hnil2 hr3 (by omega) Rk HRk).mono ?_; rintro e w4 ⟨an, cn, vn, v2', rfl, hC4, ho4, hw4, hrow4, hP4, hd4, hK4⟩; have hm4 := (next_all (w5 := w4) (am' := none) (cm' := 0) hpW hrow hPm hv2 ho2 hK hb3 hC4 ho4 hw4 hP4 hd4 hK4).1)
                | (at_builtin; refine wp_rows rfl _ _ rfl w6.heap.size _ ms.length vm rfl hm4 w3.heap.size an Rk.1.length cn vn rfl hrow4 (fun u hu => hP4.one u hu) (by omega) (by have := hK.size; have := hb3.size; have := hK4.size; omega) ?_; intro am' cm' w5 hown5 hgr5; obtain ⟨N1, N2, N3, N4, N5, N6⟩ := (next_all hpW hrow hPm hv2 ho2 hK hb3 hC4 ho4 hw4 hP4 hd4 hK4).2 hown5 hgr5))
              go_roundw
              case rel => exact ⟨ii + 1, _, _, _, _, _, am', cm', vm ++ vn, _, _, _, _, by go_num, HSN, rfl, hRd, by rw [List.length_append], N1, N2, rfl, N3, N4, N5, HCN, N6, fun h => by omega⟩
              case measure => exact mu_lt hn hi4
            · have hRd := hrr.drop hKle
              rw [Nat.sub_self] at hRd
              go_wp2_with (first
                | (go_at_call 16; refine (twinR (some ⟨b, off, none⟩) nr cr (rem.take nr) 3000 _ hRk (by omega)).mono ?_; rintro e w3 ⟨a3, n3, c3, rfl, hn3, hr3, hb3, _⟩; have hC3 := (hb3.block p2 hC2.lt).trans hC2; have ho3 := own_keep (S := fun _ => False) ho2 (Keep.ofBelow hb3) (fun _ _ h => h))
                | (go_at_call 11; refine (feedN p2 M v2 h2 b2 a3 n3 c3 _ _ hC3 ho3 hbd2 hnil2 hr3 (by omega) Rk HRk).mono ?_; rintro e w4 ⟨an, cn, vn, v2', rfl, hC4, ho4, hw4, hrow4, hP4, hd4, hK4⟩; have hm4 := (next_all (w5 := w4) (am' := none) (cm' := 0) hpW hrow hPm hv2 ho2 hK hb3 hC4 ho4 hw4 hP4 hd4 hK4).1)
                | (at_builtin; refine wp_rows rfl _ _ rfl w6.heap.size _ ms.length vm rfl hm4 w3.heap.size an Rk.1.length cn vn rfl hrow4 (fun u hu => hP4.one u hu) (by omega) (by have := hK.size; have := hb3.size; have := hK4.size; omega) ?_; intro am' cm' w5 hown5 hgr5; obtain ⟨N1, N2, N3, N4, N5, N6⟩ := (next_all hpW hrow hPm hv2 ho2 hK hb3 hC4 ho4 hw4 hP4 hd4 hK4).2 hown5 hgr5))
              go_roundw
              case rel => exact ⟨ii + 1, _, _, _, _, _, am', cm', vm ++ vn, _, _, _, _, by go_num, HSN, rfl, hRd, by rw [List.length_append], N1, N2, rfl, N3, N4, N5, HCN, N6, fun h => by omega⟩
              case measure => exact mu_lt hn hi4
          · have hgz : ¬ (nr : Int) < (kk : Int) := by omega
            have hKle : kk ≤ nr := by omega
            have hKz : (kk : Int) ≤ (cr : Int) := by omega
            have hKn : (kk : Int) ≤ (nr : Int) := by omega
            have hRk0 : Rd w6 (some ⟨b, off, none⟩) kk cr (rem.take kk) := hrr.take hKle
            have hRk : Rd wr (some ⟨b, off, none⟩) kk cr (rem.take kk) := hRk0.keepN hK (fun h ad e => hD6.not_rd hRk0 h e)
            have htk : (rem.take kk).take 3000 = rem.take kk := List.take_of_length_le (by rw [List.length_take]; omega)
            obtain ⟨Rk, HRk⟩ : ∃ Rk, Hid (stepS M h2 b2 ((rem.take kk).take 3000) = Rk) := ⟨_, rfl⟩
            have HCN : Hid (cut M (pre ++ rem.take kk) = (ms ++ Rk.1, Rk.2)) := by
              have h := cut_step2 (x := rem.take kk) HC.out
              rw [← htk, HRk.out, htk] at h
              exact h
            have hRl : Rk.1.length ≤ 3000 := by
              have h := cut_len M (pre ++ rem.take kk)
              rw [HCN.out, List.length_append, List.length_append, List.length_take] at h
              simp only at h
              omega
            have HSN : Hid (sl = (pre ++ rem.take kk) ++ rem.drop kk) := by
              show sl = _
              rw [List.append_assoc, List.take_append_drop]; exact HS.out
            by_cases hck : cr = kk
            · obtain rfl : kk = cr := hck.symm
              obtain rfl : nr = kk := by omega
              have hRd : Rd w6 (some ⟨b, off, none⟩) 0 0 (rem.drop nr) := by
                rw [List.drop_of_length_le (by omega)]
                exact ⟨rfl, Nat.le_refl _, by unfold maxLen; omega, (fun e => by cases e), Bd.nil, fun _ _ j hj => by omega⟩
              go_wp2_with (first
                | (go_at_call 16; refine (twinR (some ⟨b, off, none⟩) nr nr (rem.take nr) 3000 _ hRk (by omega)).mono ?_; rintro e w3 ⟨a3, n3, c3, rfl, hn3, hr3, hb3, _⟩; have hC3 := (hb3.block p2 hC2.lt).trans hC2; have ho3 := own_keep (S := fun _ => False) ho2 (Keep.ofBelow hb3) (fun _ _ h => h))
                | (go_at_call 11; refine (feedN p2 M v2 h2 b2 a3 n3 c3 _ _ hC3 ho3 hbd2 hnil2 hr3 (by omega) Rk HRk).mono ?_; rintro e w4 ⟨an, cn, vn, v2', rfl, hC4, ho4, hw4, hrow4, hP4, hd4, hK4⟩; have hm4 := (next_all (w5 := w4) (am' := none) (cm' := 0) hpW hrow hPm hv2 ho2 hK hb3 hC4 ho4 hw4 hP4 hd4 hK4).1)
                | (at_builtin; refine wp_rows rfl _ _ rfl w6.heap.size _ ms.length vm rfl hm4 w3.heap.size an Rk.1.length cn vn rfl hrow4 (fun u hu => hP4.one u hu) (by omega) (by have := hK.size; have := hb3.size; have := hK4.size; omega) ?_; intro am' cm' w5 hown5 hgr5; obtain ⟨N1, N2, N3, N4, N5, N6⟩ := (next_all hpW hrow hPm hv2 ho2 hK hb3 hC4 ho4 hw4 hP4 hd4 hK4).2 hown5 hgr5))
              go_roundw
              case rel => exact ⟨ii + 1, _, _, _, _, _, am', cm', vm ++ vn, _, _, _, _, by go_num, HSN, rfl, hRd, by rw [List.length_append], N1, N2, rfl, N3, N4, N5, HCN, N6, fun h => by omega⟩
              case measure => exact mu_lt hn hi4
            · have hRd := hrr.drop hKle
              go_wp2_with (first
                | (go_at_call 16; refine (twinR (some ⟨b, off, none⟩) kk cr (rem.take kk) 3000 _ hRk (by omega)).mono ?_; rintro e w3 ⟨a3, n3, c3, rfl, hn3, hr3, hb3, _⟩; have hC3 := (hb3.block p2 hC2.lt).trans hC2; have ho3 := own_keep (S := fun _ => False) ho2 (Keep.ofBelow hb3) (fun _ _ h => h))
                | (go_at_call 11; refine (feedN p2 M v2 h2 b2 a3 n3 c3 _ _ hC3 ho3 hbd2 hnil2 hr3 (by omega) Rk HRk).mono ?_; rintro e w4 ⟨an, cn, vn, v2', rfl, hC4, ho4, hw4, hrow4, hP4, hd4, hK4⟩; have hm4 := (next_all (w5 := w4) (am' := none) (cm' := 0) hpW hrow hPm hv2 ho2 hK hb3 hC4 ho4 hw4 hP4 hd4 hK4).1)
                | (at_builtin; refine wp_rows rfl _ _ rfl w6.heap.size _ ms.length vm rfl hm4 w3.heap.size an Rk.1.length cn vn rfl hrow4 (fun u hu => hP4.one u hu) (by omega) (by have := hK.size; have := hb3.size; have := hK4.size; omega) ?_; intro am' cm' w5 hown5 hgr5; obtain ⟨N1, N2, N3, N4, N5, N6⟩ := (next_all hpW hrow hPm hv2 ho2 hK hb3 hC4 ho4 hw4 hP4 hd4 hK4).2 hown5 hgr5))
              go_roundw
              case rel => exact ⟨ii + 1, _, _, _, _, _, am', cm', vm ++ vn, _, _, _, _, by go_num, HSN, rfl, hRd, by rw [List.length_append], N1, N2, rfl, N3, N4, N5, HCN, N6, fun h => by omega⟩
              case measure => exact mu_lt hn hi4
        · have h4z : ¬ (ii : Int) < 400 := by omega
          have hKle : nr ≤ nr := by omega
          have hKz : (nr : Int) ≤ (cr : Int) := by omega
          have hKn : (nr : Int) ≤ (nr : Int) := by omega
          have hRk0 : Rd w6 (some ⟨b, off, none⟩) nr cr (rem.take nr) := hrr.take hKle
          have hRk : Rd wr (some ⟨b, off, none⟩) nr cr (rem.take nr) := hRk0.keepN hK (fun h ad e => hD6.not_rd hRk0 h e)
          have htk : (rem.take nr).take 3000 = rem.take nr := List.take_of_length_le (by rw [List.length_take]; omega)
          obtain ⟨Rk, HRk⟩ : ∃ Rk, Hid (stepS M h2 b2 ((rem.take nr).take 3000) = Rk) := ⟨_, rfl⟩
          have HCN : Hid (cut M (pre ++ rem.take nr) = (ms ++ Rk.1, Rk.2)) := by
            have h := cut_step2 (x := rem.take nr) HC.out
            rw [← htk, HRk.out, htk] at h
            exact h
          have hRl : Rk.1.length ≤ 3000 := by
            have h := cut_len M (pre ++ rem.take nr)
            rw [HCN.out, List.length_append, List.length_append, List.length_take] at h
            simp only at h
            omega
          have HSN : Hid (sl = (pre ++ rem.take nr) ++ rem.drop nr) := by
            show sl = _
            rw [List.append_assoc, List.take_append_drop]; exact HS.out
          by_cases hck : cr = nr
          · obtain rfl : nr = cr := hck.symm
            have hRd : Rd w6 (some ⟨b, off, none⟩) 0 0 (rem.drop nr) := by
              rw [List.drop_of_length_le (by omega)]
              exact ⟨rfl, Nat.le_refl _, by unfold maxLen; omega, (fun e => by cases e), Bd.nil, fun _ _ j hj => by omega⟩
            go_wp2_with (first
              | (go_at_call 16; refine (twinR (some ⟨b, off, none⟩) nr nr (rem.take nr) 3000 _ hRk (by omega)).mono ?_; rintro e w3 ⟨a3, n3, c3, rfl, hn3, hr3, hb3, _⟩; have hC3 := (hb3.block p2 hC2.lt).trans hC2; have ho3 := own_keep (S := fun _ => False) ho2 (Keep.ofBelow hb3) (fun _ _ h => h))
              | (go_at_call 11; refine (feedN p2 M v2 h2 b2 a3 n3 c3 _ _ hC3 ho3 hbd2 hnil2 hr3 (by omega) Rk HRk).mono ?_; rintro e w4 ⟨an, cn, vn, v2', rfl, hC4, ho4, hw4, hrow4, hP4, hd4, hK4⟩; have hm4 := (next_all (w5 := w4) (am' := none) (cm' := 0) hpW hrow hPm hv2 ho2 hK hb3 hC4 ho4 hw4 hP4 hd4 hK4).1)
              | (at_builtin; refine wp_rows rfl _ _ rfl w6.heap.size _ ms.length vm rfl hm4 w3.heap.size an Rk.1.length cn vn rfl hrow4 (fun u hu => hP4.one u hu) (by omega) (by have := hK.size; have := hb3.size; have := hK4.size; omega) ?_; intro am' cm' w5 hown5 hgr5; obtain ⟨N1, N2, N3, N4, N5, N6⟩ := (next_all hpW hrow hPm hv2 ho2 hK hb3 hC4 ho4 hw4 hP4 hd4 hK4).2 hown5 hgr5))
            go_roundw
            case rel => exact ⟨ii + 1, _, _, _, _, _, am', cm', vm ++ vn, _, _, _, _, by go_num, HSN, rfl, hRd, by rw [List.length_append], N1, N2, rfl, N3, N4, N5, HCN, N6, fun h => by omega⟩
            case measure => exact mu_lt hn hi4
          · have hRd := hrr.drop hKle
            rw [Nat.sub_self] at hRd
            go_wp2_with (first
              | (go_at_call 16; refine (twinR (some ⟨b, off, none⟩) nr cr (rem.take nr) 3000 _ hRk (by omega)).mono ?_; rintro e w3 ⟨a3, n3, c3, rfl, hn3, hr3, hb3, _⟩; have hC3 := (hb3.block p2 hC2.lt).trans hC2; have ho3 := own_keep (S := fun _ => False) ho2 (Keep.ofBelow hb3) (fun _ _ h => h))
              | (go_at_call 11; refine (feedN p2 M v2 h2 b2 a3 n3 c3 _ _ hC3 ho3 hbd2 hnil2 hr3 (by omega) Rk HRk).mono ?_; rintro e w4 ⟨an, cn, vn, v2', rfl, hC4, ho4, hw4, hrow4, hP4, hd4, hK4⟩; have hm4 := (next_all (w5 := w4) (am' := none) (cm' := 0) hpW hrow hPm hv2 ho2 hK hb3 hC4 ho4 hw4 hP4 hd4 hK4).1)
              | (at_builtin; refine wp_rows rfl _ _ rfl w6.heap.size _ ms.length vm rfl hm4 w3.heap.size an Rk.1.length cn vn rfl hrow4 (fun u hu => hP4.one u hu) (by omega) (by have := hK.size; have := hb3.size; have := hK4.size; omega) ?_; intro am' cm' w5 hown5 hgr5; obtain ⟨N1, N2, N3, N4, N5, N6⟩ := (next_all hpW hrow hPm hv2 ho2 hK hb3 hC4 ho4 hw4 hP4 hd4 hK4).2 hown5 hgr5))
            go_roundw
            case rel => exact ⟨ii + 1, _, _, _, _, _, am', cm', vm ++ vn, _, _, _, _, by go_num, HSN, rfl, hRd, by rw [List.length_append], N1, N2, rfl, N3, N4, N5, HCN, N6, fun h => by omega⟩
            case measure => exact mu_lt hn hi4
      · have hAz : ¬ (ii : Int) < (nc : Int) := by omega
        have hKle : nr ≤ nr := by omega
        have hKz : (nr : Int) ≤ (cr : Int) := by omega
        have hKn : (nr : Int) ≤ (nr : Int) := by omega
        have hRk0 : Rd w6 (some ⟨b, off, none⟩) nr cr (rem.take nr) := hrr.take hKle
        have hRk : Rd wr (some ⟨b, off, none⟩) nr cr (rem.take nr) := hRk0.keepN hK (fun h ad e => hD6.not_rd hRk0 h e)
        have htk : (rem.take nr).take 3000 = rem.take nr := List.take_of_length_le (by rw [List.length_take]; omega)
        obtain ⟨Rk, HRk⟩ : ∃ Rk, Hid (stepS M h2 b2 ((rem.take nr).take 3000) = Rk) := ⟨_, rfl⟩
        have HCN : Hid (cut M (pre ++ rem.take nr) = (ms ++ Rk.1, Rk.2)) := by
          have h := cut_step2 (x := rem.take nr) HC.out
          rw [← htk, HRk.out, htk] at h
          exact h
        have hRl : Rk.1.length ≤ 3000 := by
          have h := cut_len M (pre ++ rem.take nr)
          rw [HCN.out, List.length_append, List.length_append, List.length_take] at h
          simp only at h
          omega
        have HSN : Hid (sl = (pre ++ rem.take nr) ++ rem.drop nr) := by
          show sl = _
          rw [List.append_assoc, List.take_append_drop]; exact HS.out
        by_cases hck : cr = nr
        · obtain rfl : nr = cr := hck.symm
          have hRd : Rd w6 (some ⟨b, off, none⟩) 0 0 (rem.drop nr) := by
            rw [List.drop_of_length_le (by omega)]
            exact ⟨rfl, Nat.le_refl _, by unfold maxLen; omega, (fun e => by cases e), Bd.nil, fun _ _ j hj => by omega⟩
          go_wp2_with (first
            | (go_at_call 16; refine (twinR (some ⟨b, off, none⟩) nr nr (rem.take nr) 3000 _ hRk (by omega)).mono ?_; rintro e w3 ⟨a3, n3, c3, rfl, hn3, hr3, hb3, _⟩; have hC3 := (hb3.block p2 hC2.lt).trans hC2; have ho3 := own_keep (S := fun _ => False) ho2 (Keep.ofBelow hb3) (fun _ _ h => h))
            | (go_at_call 11; refine (feedN p2 M v2 h2 b2 a3 n3 c3 _ _ hC3 ho3 hbd2 hnil2 hr3 (by omega) Rk HRk).mono ?_; rintro e w4 ⟨an, cn, vn, v2', rfl, hC4, ho4, hw4, hrow4, hP4, hd4, hK4⟩; have hm4 := (next_all (w5 := w4) (am' := none) (cm' := 0) hpW hrow hPm hv2 ho2 hK hb3 hC4 ho4 hw4 hP4 hd4 hK4).1)
            | (at_builtin; refine wp_rows rfl _ _ rfl w6.heap.size _ ms.length vm rfl hm4 w3.heap.size an Rk.1.length cn vn rfl hrow4 (fun u hu => hP4.one u hu) (by omega) (by have := hK.size; have := hb3.size; have := hK4.size; omega) ?_; intro am' cm' w5 hown5 hgr5; obtain ⟨N1, N2, N3, N4, N5, N6⟩ := (next_all hpW hrow hPm hv2 ho2 hK hb3 hC4 ho4 hw4 hP4 hd4 hK4).2 hown5 hgr5))
          go_roundw
          case rel => exact ⟨ii + 1, _, _, _, _, _, am', cm', vm ++ vn, _, _, _, _, by go_num, HSN, rfl, hRd, by rw [List.length_append], N1, N2, rfl, N3, N4, N5, HCN, N6, fun h => by omega⟩
          case measure => exact mu_lt hn hi4
        · have hRd := hrr.drop hKle
          rw [Nat.sub_self] at hRd
          go_wp2_with (first
            | (go_at_call 16; refine (twinR (some ⟨b, off, none⟩) nr cr (rem.take nr) 3000 _ hRk (by omega)).mono ?_; rintro e w3 ⟨a3, n3, c3, rfl, hn3, hr3, hb3, _⟩; have hC3 := (hb3.block p2 hC2.lt).trans hC2; have ho3 := own_keep (S := fun _ => False) ho2 (Keep.ofBelow hb3) (fun _ _ h => h))
            | (go_at_call 11; refine (feedN p2 M v2 h2 b2 a3 n3 c3 _ _ hC3 ho3 hbd2 hnil2 hr3 (by omega) Rk HRk).mono ?_; rintro e w4 ⟨an, cn, vn, v2', rfl, hC4, ho4, hw4, hrow4, hP4, hd4, hK4⟩; have hm4 := (next_all (w5 := w4) (am' := none) (cm' := 0) hpW hrow hPm hv2 ho2 hK hb3 hC4 ho4 hw4 hP4 hd4 hK4).1)
            | (at_builtin; refine wp_rows rfl _ _ rfl w6.heap.size _ ms.length vm rfl hm4 w3.heap.size an Rk.1.length cn vn rfl hrow4 (fun u hu => hP4.one u hu) (by omega) (by have := hK.size; have := hb3.size; have := hK4.size; omega) ?_; intro am' cm' w5 hown5 hgr5; obtain ⟨N1, N2, N3, N4, N5, N6⟩ := (next_all hpW hrow hPm hv2 ho2 hK hb3 hC4 ho4 hw4 hP4 hd4 hK4).2 hown5 hgr5))
          go_roundw
          case rel => exact ⟨ii + 1, _, _, _, _, _, am', cm', vm ++ vn, _, _, _, _, by go_num, HSN, rfl, hRd, by rw [List.length_append], N1, N2, rfl, N3, N4, N5, HCN, N6, fun h => by omega⟩
          case measure => exact mu_lt hn hi4

theorem own : ownKnob Try.prog.godebug = none := by kernel_rfl
theorem laidOut : laidOutB Try.prog = true := by kernel_rfl

set_option maxRecDepth 100000 in
theorem lifted (os : Os) (started : os.Started) (H : Type) (enc : TypeId × Value → H) :
    ReturnsInHanded {} Try.checked os 4 .any (Rows.frameCutsSpec.pre6 enc Try.prog Try.f4 Rows.frameCutsRow.domain false) (Rows.frameCutsSpec.post enc Try.prog Try.f4 false true false false) := by
  refine returnsInHanded_of_change (C := Try.checked) own started (by kernel_rfl) Try.func4
    (ChangeSpec.witness6 (enc := enc) (C := Try.checked) false ⟨#[], #[.int .i64 0, .slice none 0 0, .slice none 0 0], []⟩ 8 (by kernel_rfl) (by kernel_rfl) (by kernel_rfl) (by kernel_rfl)) ?_
  intro W base args ds gs before hval0 hW hcnd _
  have hval : ∀ (j : Nat) t v, Try.f4.params[j]? = some t → args[j]? = some v → Value.okWide Try.prog W .any base t v := hval0
  have hW' := hW
  obtain ⟨p, q, hA0, hV, rfl, hfz, hnd⟩ := hW
  have hA : DataW.TrodAll enc Try.prog W 0 (fun _ => true) true Try.f4.params.toList args.toList ds p := hA0
  rw [Try.params4] at hA hval
  obtain ⟨v0, vs0, d0, ds0, p0, q0, hargs, rfl, rfl, h0, r0⟩ := trodAll_cons hA
  obtain ⟨v1, vs1, d1, ds1, p1, q1, rfl, rfl, rfl, h1, r1⟩ := trodAll_cons r0
  obtain ⟨v2, vs2, d2, ds2, p2, q2, rfl, rfl, rfl, h2, r2⟩ := trodAll_cons r1
  obtain ⟨rfl, rfl, rfl⟩ := trodAll_nil r2
  obtain rfl : args = #[v0, v1, v2] := by cases args; simp_all
  obtain ⟨rfl, rfl⟩ := trodVars_none hV
  obtain ⟨a0, rfl, rfl, rfl, w0⟩ := open_int Try.underlying3 (hval 0 3 v0 rfl rfl) h0
  have g0 := bounds_i64 w0
  obtain ⟨a1, len1, cap1, rfl⟩ := okWide_slice Try.underlying31 (hval 1 31 v1 rfl rfl)
  have k1 := h1
  have lt1 : ∀ x ∈ p1, x.block < W.heap.size := by obtain ⟨m, hm⟩ := k1; exact DataW.trod_lt m _ _ _ hm
  obtain ⟨z1, hR1⟩ : ∃ zs, Rd W a1 len1 cap1 zs := rd_of_trod h1
  obtain ⟨a2, len2, cap2, rfl⟩ := okWide_slice Try.underlying40 (hval 2 40 v2 rfl rfl)
  have k2 := h2
  have lt2 : ∀ x ∈ p2, x.block < W.heap.size := by obtain ⟨m, hm⟩ := k2; exact DataW.trod_lt m _ _ _ hm
  obtain ⟨z2, hR2⟩ := ints_of_trod h2
  clear hA0 hval0
  refine (walk a0 g0 a1 len1 cap1 z1 a2 len2 cap2 W hR1 z2 hR2).mono fun e W' ⟨he, bel⟩ => ?_
  subst he
  exact ⟨_, rfl, _, _, _, [], _, [], hW', trodAll_mk1 (shut_bool Try.underlying4 _), (trodAll_cons_mk (shut_int Try.underlying3 w0) (trodAll_cons_mk (Below.trod laidOut (by kernel_rfl) (of_decide_eq_true (by kernel_rfl)) k1 bel lt1) (trodAll_cons_mk (Below.trod laidOut (by kernel_rfl) (of_decide_eq_true (by kernel_rfl)) k2 bel lt2) trodAll_mk0))), rfl, bel.frame _, fun h => by cases h⟩

end Go.Proofs.Ytmpoddgmkneffaa.frameCuts

namespace Go.Proofs.Ytmpoddgmkneffaa
theorem frameCuts_holds : Rows.FrameCutsSaid :=
  OpenClaim.holds_of_wide 4 Try.f4 rfl rfl rfl rfl rfl rfl rfl ⟨rfl, rfl, rfl, rfl, rfl⟩ rfl rfl rfl rfl rfl (by kernel_rfl) Try.func4 (by kernel_rfl)
    (of_decide_eq_true (by kernel_rfl)) (by unfold Func.isWrapper; first | (rw [if_pos (by decide +kernel)]; kernel_rfl) | (rw [if_neg (by decide +kernel)]; exact ⟨rfl, rfl⟩))
    (fun os started H enc _ => frameCuts.lifted os started H enc)
#print axioms frameCuts_holds
end Go.Proofs.Ytmpoddgmkneffaa
