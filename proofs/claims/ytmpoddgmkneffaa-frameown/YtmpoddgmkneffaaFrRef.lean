/- The document's Feed. -/
import Derived.Test.YtmpoddgmkneffaaFrSmall
namespace Go.Proofs.Ytmpoddgmkneffaa
open Go.RowKit Go.Shelf

/-- What the document's Feed answers and leaves. -/
def FedR (w : World) (p M : Nat) (r : List (List Int) × List Int × Bool) (e : Ending) (w' : World) : Prop :=
  ∃ a c vs a' n' c', e = .returned (.tuple #[.slice a r.1.length c, .int .i64 (if r.2.2 = true then 5 else 0)]) ∧
    RF w' p M (.slice a' n' c') r.2.2 ∧ Rd w' a' n' c' r.2.1 ∧ (∀ ad, a' = some ad → w.heap.size ≤ ad.block ∧ ad.block < w'.heap.size) ∧
    w'.ownsRow w.heap.size 31 1 (.slice a r.1.length c) r.1.length vs ∧ Pays w' w.heap.size vs r.1 ∧ Keep (fun k => k = p) w w'

theorem be_four (xs : List Int) : be xs = (xs.getD 0 0).toNat * 16777216 + (xs.getD 1 0).toNat * 65536 + (xs.getD 2 0).toNat * 256 + (xs.getD 3 0).toNat := by
  simp only [be, beK]; omega

theorem or_add {x y k : Nat} (hy : y < 2 ^ k) (hx : x * 2 ^ k + y < 18446744073709551616) : bits .or .u64 ((x * 2 ^ k : Nat) : Int) (y : Int) = ((x * 2 ^ k + y : Nat) : Int) := by
  rw [u64_or_nat _ _ (by omega) (by omega)]
  congr 1
  rw [← Nat.shiftLeft_eq, ← Nat.shiftLeft_add_eq_or_of_lt hy]

theorem or_arith1 (u c : Nat) : u * 65536 + c * 256 = (u * 256 + c) * 256 := by omega
theorem or_arith2 (u c : Nat) (h : u < 65536) (h2 : c < 256) : u * 256 + c < 16777216 := by omega

theorem or_four {x0 x1 x2 x3 : Int} (h0 : 0 ≤ x0 ∧ x0 ≤ 255) (h1 : 0 ≤ x1 ∧ x1 ≤ 255) (h2 : 0 ≤ x2 ∧ x2 ≤ 255) (h3 : 0 ≤ x3 ∧ x3 ≤ 255) :
    bits .or .u64 (bits .or .u64 (bits .or .u64 (x0 * 16777216) (x1 * 65536)) (x2 * 256)) x3 = ((x0.toNat * 16777216 + x1.toNat * 65536 + x2.toNat * 256 + x3.toNat : Nat) : Int) := by
  obtain ⟨a, rfl⟩ : ∃ a : Nat, x0 = a := ⟨x0.toNat, by omega⟩
  obtain ⟨b, rfl⟩ : ∃ a : Nat, x1 = a := ⟨x1.toNat, by omega⟩
  obtain ⟨c, rfl⟩ : ∃ a : Nat, x2 = a := ⟨x2.toNat, by omega⟩
  obtain ⟨d, rfl⟩ : ∃ a : Nat, x3 = a := ⟨x3.toNat, by omega⟩
  have e1 : bits .or .u64 ((a * 16777216 : Nat) : Int) ((b * 65536 : Nat) : Int) = ((a * 16777216 + b * 65536 : Nat) : Int) := or_add (x := a) (y := b * 65536) (k := 24) (by omega) (by omega)
  have f1 : ((a : Int) * 16777216) = ((a * 16777216 : Nat) : Int) := by omega
  have f2 : ((b : Int) * 65536) = ((b * 65536 : Nat) : Int) := by omega
  have f3 : ((c : Int) * 256) = ((c * 256 : Nat) : Int) := by omega
  rw [f1, f2, f3, e1]
  clear e1
  obtain ⟨u, hu, hu1⟩ : ∃ u, a * 16777216 + b * 65536 = u * 65536 ∧ u < 65536 := ⟨a * 256 + b, by omega, by omega⟩
  have e2 : bits .or .u64 ((u * 65536 : Nat) : Int) ((c * 256 : Nat) : Int) = ((u * 65536 + c * 256 : Nat) : Int) := or_add (x := u) (y := c * 256) (k := 16) (by omega) (by omega)
  rw [hu, e2]
  clear e2
  obtain ⟨v, hv, hv1⟩ : ∃ v, u * 65536 + c * 256 = v * 256 ∧ v < 16777216 := ⟨u * 256 + c, or_arith1 u c, or_arith2 u c hu1 (by omega)⟩
  have e3 : bits .or .u64 ((v * 256 : Nat) : Int) (d : Int) = ((v * 256 + d : Nat) : Int) := or_add (x := v) (y := d) (k := 8) (by omega) (by omega)
  rw [hv, e3]
  have f6 : v * 256 + d = (a : Int).toNat * 16777216 + (b : Int).toNat * 65536 + (c : Int).toNat * 256 + (d : Int).toNat := by
    rw [Int.toNat_natCast, Int.toNat_natCast, Int.toNat_natCast, Int.toNat_natCast, hu, hv]
  rw [f6]

theorem slice_len {a : Option Addr} {m m' c c' : Nat} (h : m = m') (h2 : c = c') : Value.slice a m c = Value.slice a m' c' := by rw [h, h2]

theorem row_snoc {w3 w4 : World} {N F : Nat} {pv v : Value} {vs : List Value} {s : List (List Int)} {x : List Int} {g cap n : Nat} (hrow : w3.ownsRow N 31 1 pv n vs) (hP : Pays w3 N vs s) (hv : v = .slice (some ⟨g, 0, none⟩) x.length cap)
    (hx : w3.ownsRow F 5 1 v x.length (bc x)) (hbd : Bd x) (hF : ∀ u ∈ vs, ∀ k, u.ownBlock = some k → k < F) (hN : N ≤ F) (hg : (w3.alloc (.cells #[v] 31)).grownBy w4 pv.ownBlock) : Pays w4 N (vs ++ [v]) (s ++ [x]) := by
  have hkk : Keep (fun k => pv.ownBlock = some k) w3 w4 := ((Keep.refl _ w3).alloc _).andThen (Keep.ofGrown hg) (fun i _ e => e)
  have hty : ∀ j cur, w3.heap[j]? = some (.cells cur 5 (0, 0)) → ¬ (pv.ownBlock = some j) := by
    intro j cur hc e
    obtain ⟨_, cur', hc'⟩ := own_type hrow e
    rw [hc] at hc'
    simp at hc'
  subst hv
  obtain ⟨hgl, cur, hcur⟩ := row_block hx
  refine Pays.snoc (F := F) (own_keep hx hkk (fun j e => ?_)) hbd (hP.keep hkk (fun k cur _ hc => hty k cur hc)) (by omega) hF
  cases e
  exact hty g cur hcur

theorem ref_next {W wd w3 w4 : World} {p g3 k cap3 n : Nat} {pv pv' u' : Value} {vs : List Value} {s : List (List Int)} {x : List Int} (hpW : p < W.heap.size) (hKd : Keep (fun k => k = p) W wd) (hPd : Pays wd W.heap.size vs s)
    (hb3 : Below wd.heap.size wd w3) (hown3 : w3.ownsRow wd.heap.size 5 1 (.slice (some ⟨g3, 0, none⟩) k cap3) k (bc x)) (hbd : Bd x) (hk : x.length = k) (hrow3 : w3.ownsRow W.heap.size 31 1 pv n vs)
    (hgr4 : (w3.alloc (.cells #[.slice (some ⟨g3, 0, none⟩) k cap3] 31)).grownBy w4 pv.ownBlock) (hown4 : w4.ownsRow W.heap.size 31 1 pv' (n + 1) (vs ++ [.slice (some ⟨g3, 0, none⟩) k cap3])) :
    Keep (fun k => k = p) W (w4.setCell ⟨p, 1, none⟩ u') ∧ (w4.setCell ⟨p, 1, none⟩ u').ownsRow W.heap.size 31 1 pv' (n + 1) (vs ++ [.slice (some ⟨g3, 0, none⟩) k cap3]) ∧ Pays (w4.setCell ⟨p, 1, none⟩ u') W.heap.size (vs ++ [.slice (some ⟨g3, 0, none⟩) k cap3]) (s ++ [x]) ∧
    (∀ (b o m c : Nat) (ys : List Int), b < W.heap.size → p ≠ b → Rd wd (some ⟨b, o, none⟩) m c ys → Rd (w4.setCell ⟨p, 1, none⟩ u') (some ⟨b, o, none⟩) m c ys) := by
  have hks := hKd.size
  have hk3 : Keep (fun k => k = p) wd w3 := Keep.ofBelow hb3
  have hP3 := hPd.keep hk3 (fun k cur hl _ => by omega)
  subst hk
  have hP4 : Pays w4 W.heap.size (vs ++ [.slice (some ⟨g3, 0, none⟩) x.length cap3]) (s ++ [x]) := row_snoc hrow3 hP3 rfl hown3 hbd (fun u hu k e => (hPd.blk u hu k e).2) hks hgr4
  have h34 : Keep (fun k => pv.ownBlock = some k) w3 w4 := ((Keep.refl _ w3).alloc _).andThen (Keep.ofGrown hgr4) (fun i _ e => e)
  have hset : Keep (fun k => k = p) w4 (w4.setCell ⟨p, 1, none⟩ u') := Keep.setCell (S := fun k => k = p) (Keep.refl _ _) rfl _
  refine ⟨((hKd.trans hk3).andThen h34 (fun i hi e => absurd (hrow3.lt i e).1 (by omega))).trans hset, own_keep hown4 hset (fun j e h => absurd (hown4.lt j e).1 (by omega)), hP4.keep hset (fun k cur hl _ => by omega), ?_⟩
  intro b o m c ys hb hpb hR
  refine ((hR.keep hk3 (fun ad e h => ?_)).keep h34 (fun ad e h => ?_)).keep hset (fun ad e h => ?_)
  · cases e; exact hpb h.symm
  · cases e; exact absurd (hrow3.lt b h).1 (by omega)
  · cases e; exact hpb h.symm

set_option maxHeartbeats 3200000 in
set_option maxRecDepth 100000 in
theorem refFeed_aux (p M : Nat) (a0 : Option Addr) (n0 c0 : Nat) (held : List Int) (ab : Option Addr) (nb cb : Nat) (bs : List Int) (w : World) (hC : RF w p M (.slice a0 n0 c0) false) (hM : M < 9223372036854775808) (hH : Rd w a0 n0 c0 held)
    (hR : Rd w ab nb cb bs) (hlen : n0 + nb ≤ 1000000) (xs : List Int) (HXS : Hid (held ++ bs = xs)) :
    Calls Try.prog 13 #[.pointer (some ⟨p, 0, none⟩), .slice ab nb cb] w (FedR w p M (cut M xs)) := by
  have hc1 := hC.c1
  have hc2 := hC.c2
  have hp := hC.lt
  have tok : True := trivial
  go_enter Try.func13, Try.ntmps13
  go_wp2_with (first
    | (at_builtin; clear tok; refine wp_app0 rfl _ _ rfl rfl a0 n0 c0 held rfl hH (by omega) ?_; intro v1 w1 hown1 hb1 hv1; obtain ⟨g1, cap1, rfl⟩ := hv1; have hC1 : RF w1 p M _ false := (hb1.block p hp).trans hC; have hR1 := hR.carry (Nat.le_refl _) hb1)
    | (at_builtin; refine wp_app rfl _ _ rfl w.heap.size _ n0 held rfl hown1 ab nb cb bs rfl hR1 (by omega) hb1.size ?_; intro v2 w2 hown2 hgr2 hwh2; obtain ⟨a2, c2, rfl, hr2⟩ := Rd.ofOwn hown2 (hH.bytes.append hR.bytes); have hb2 : Below w.heap.size w w2 := hb1.grown hgr2 hb1.size (fun k e => (hown1.lt k e).1); have hC2 : RF w2 p M _ false := (hb2.block p hp).trans hC; have hx1 := hC2.c1; have hx2 := hC2.fz 1))
  have hwh : (Value.slice a2 (n0 + nb) c2).ownBlock = some g1 ∨ (Value.slice a2 (n0 + nb) c2).ownBlock = some w1.heap.size := hwh2
  clear hwh2 hgr2
  obtain ⟨b, rfl⟩ : ∃ b, a2 = some ⟨b, 0, none⟩ := by
    rcases hown2.2 with ⟨hv, _⟩ | ⟨g, cap, _, hv, _⟩
    · rw [hv] at hwh; rcases hwh with h | h <;> cases h
    · cases hv; exact ⟨g, rfl⟩
  have hbb := hown2.lt b rfl
  have hpb : p ≠ b := by omega
  have hCW : RF (w2.setCell ⟨p, 1, none⟩ (.slice (some ⟨b, 0, none⟩) (n0 + nb) c2)) p M (.slice (some ⟨b, 0, none⟩) (n0 + nb) c2) false := hC2.set1 _
  have hkW : Keep (fun k => k = p) w2 (w2.setCell ⟨p, 1, none⟩ (.slice (some ⟨b, 0, none⟩) (n0 + nb) c2)) := Keep.setCell (S := fun k => k = p) (Keep.refl _ _) rfl _
  have hRW : Rd (w2.setCell ⟨p, 1, none⟩ (.slice (some ⟨b, 0, none⟩) (n0 + nb) c2)) (some ⟨b, 0, none⟩) (n0 + nb) c2 (held ++ bs) := hr2.keep hkW (fun ad e h => by cases e; exact hpb h.symm)
  have hKw : Keep (fun k => k = p) w (w2.setCell ⟨p, 1, none⟩ (.slice (some ⟨b, 0, none⟩) (n0 + nb) c2)) := (Keep.ofBelow hb2).trans hkW
  generalize (w2.setCell ⟨p, 1, none⟩ (.slice (some ⟨b, 0, none⟩) (n0 + nb) c2)) = W at hCW hRW hKw hkW
  have hbW : b < W.heap.size := Nat.lt_of_lt_of_le hbb.2 hkW.size
  have hpW : p < W.heap.size := hCW.lt
  have hlw : w.heap.size ≤ W.heap.size := hKw.size
  have hlb : w.heap.size ≤ b := hbb.1
  clear hC1 hR1 hown1 hb1 hx1 hx2 hc1 hc2 hown2 hr2 hb2 hC2 hwh hkW hbb
  rw [HXS.out] at hRW
  clear hH hR hC
  go_loopw [6] (fun out wr => ∃ (pre : List (List Int)) (vs : List Value) (o m cc : Nat) (rest : List Int) (apv : Option Addr) (cpv : Nat), out = .slice apv pre.length cpv ∧ RF wr p M (.slice (some ⟨b, o, none⟩) m cc) false ∧ Rd wr (some ⟨b, o, none⟩) m cc rest ∧ pre.length + m ≤ 10000000 ∧
    wr.ownsRow W.heap.size 31 1 (.slice apv pre.length cpv) pre.length vs ∧ Pays wr W.heap.size vs pre ∧ Keep (fun k => k = p) W wr ∧ Hid (cut M xs = (pre ++ (cut M rest).1, (cut M rest).2))) (fun _ wr => refHeld wr p)
  case atStart => exact ⟨[], [], 0, n0 + nb, c2, xs, none, 0, rfl, hCW, hRW, by simp; omega, World.ownsRow_nil _ _ _ _, trivial, Keep.refl _ _, by show cut M xs = _; simp⟩
  case round =>
    obtain ⟨pre, vs, o, m, cc, rest, apv, cpv, rfl, hC1, hR1, hm, hrow, hP, hK, HX⟩ := hrel
    have hc0 := hC1.c0
    have hc1 := hC1.c1
    have hc2 := hC1.c2
    have hf1 := hC1.fz 1
    have hf2 := hC1.fz 2
    have hl1 := hR1.len
    have hcap := hR1.cap
    have hmx : cc ≤ 9223372036854775807 := hR1.most
    by_cases hs : m < 4
    · have hsz : ¬ (4 : Int) ≤ (m : Int) := by omega
      go_wp2
      go_ret2
      have e : cut M xs = (pre, rest, false) := by rw [HX.out, cut_short (l := rest) (by omega)]; simp
      rw [e]
      exact ⟨apv, cpv, vs, _, _, _, rfl, hC1, hR1, (fun ad h => by cases h; exact ⟨hlb, Nat.lt_of_lt_of_le hbW hK.size⟩), own_weak hrow hlw, hP.weak hlw, hKw.trans hK⟩
    · have hsz : (4 : Int) ≤ (m : Int) := by omega
      have hbl := be_lt hR1.bytes
      have h0 := hR1.cells _ rfl 0 (by omega)
      have h1 := hR1.cells _ rfl 1 (by omega)
      have h2 := hR1.cells _ rfl 2 (by omega)
      have h3 := hR1.cells _ rfl 3 (by omega)
      rw [add_flat] at h0 h1 h2 h3
      rw [Nat.add_zero] at h0
      have g0 := hR1.bytes.get 0
      have g1 := hR1.bytes.get 1
      have g2 := hR1.bytes.get 2
      have g3 := hR1.bytes.get 3
      have HBE : Hid (be rest = (rest.getD 0 0).toNat * 16777216 + (rest.getD 1 0).toNat * 65536 + (rest.getD 2 0).toNat * 256 + (rest.getD 3 0).toNat) := be_four rest
      generalize rest.getD 0 0 = x0 at h0 g0 HBE
      generalize rest.getD 1 0 = x1 at h1 g1 HBE
      generalize rest.getD 2 0 = x2 at h2 g2 HBE
      generalize rest.getD 3 0 = x3 at h3 g3 HBE
      have hi0 : (0 : Int) < (m : Int) := by omega
      have hi1 : (1 : Int) < (m : Int) := by omega
      have hi2 : (2 : Int) < (m : Int) := by omega
      have hi3 : (3 : Int) < (m : Int) := by omega
      go_wp2
      go_quiet (fail)
      rw [or_four g0 g1 g2 g3, ← HBE.out]
      clear h0 h1 h2 h3 g0 g1 g2 g3 hi0 hi1 hi2 hi3
      have hkd : Keep (fun k => k = p) wr (wr.drewN nq) := (Keep.ofGrown (grown_drewN nq none)).mono (fun i e => by cases e)
      by_cases hbig : M < be rest
      · have hbz : (M : Int) < (be rest : Int) := by omega
        have HB : Hid (cut M xs = (pre, [], true)) := by show cut M xs = _; rw [HX.out, cut_big (l := rest) (by omega) hbig]; simp
        go_wp2
        go_ret2
        rw [HB.out]
        have hk2 : Keep (fun k => k = p) wr (((wr.drewN nq).setCell ⟨p, 2, none⟩ (.bool true)).setCell ⟨p, 1, none⟩ (.slice none 0 0)) :=
          Keep.setCell (S := fun k => k = p) (Keep.setCell (S := fun k => k = p) hkd rfl _) rfl _
        exact ⟨apv, cpv, vs, none, 0, 0, rfl, ((show RF (wr.drewN nq) p M _ false from hC1).set2 true).set1 _, rd_nil _, (fun ad h => by cases h), own_weak (own_keep hrow hk2 (fun k e h => absurd (hrow.lt k e).1 (by omega))) hlw, (hP.keep hk2 (fun k cur hl _ => by omega)).weak hlw, (hKw.trans hK).trans hk2⟩
      · have hbz : ¬ (M : Int) < (be rest : Int) := by omega
        by_cases hw : m - 4 < be rest
        · have hwz : ((m : Int) - 4) < (be rest : Int) := by omega
          have HB : Hid (cut M xs = (pre, rest, false)) := by show cut M xs = _; rw [HX.out, cut_wait (l := rest) (by omega) hbig (by omega)]; simp
          go_wp2
          go_ret2
          rw [HB.out]
          exact ⟨apv, cpv, vs, _, _, _, rfl, hC1, rd_drewN hR1 nq, (fun ad h => by cases h; exact ⟨hlb, Nat.lt_of_lt_of_le hbW hK.size⟩), own_weak hrow hlw, (hP.keep hkd (fun k cur hl _ => by omega)).weak hlw, (hKw.trans hK).trans hkd⟩
        · have hwz : ¬ ((m : Int) - 4) < (be rest : Int) := by omega
          have HB : Hid (cut M xs = ((pre ++ [(rest.drop 4).take (be rest)]) ++ (cut M (rest.drop (4 + be rest))).1, (cut M (rest.drop (4 + be rest))).2)) := cut_step HX.out (by omega) hbig (by omega)
          obtain ⟨i0, hi, hz0, hz1, hz2⟩ := info_parts Try.info31
          have hCd : RF (wr.drewN nq) p M (.slice (some ⟨b, o, none⟩) m cc) false := hC1
          have hRd := rd_drewN hR1 nq
          have hrowd : (wr.drewN nq).ownsRow W.heap.size 31 1 (.slice apv pre.length cpv) pre.length vs := hrow
          have hPd := hP.keep hkd (fun k cur hl _ => by omega)
          have hKd := hK.trans hkd
          have hML : refHeld wr p = m := hC1.heldLen
          clear hC1 hR1 hrow hP hK hkd hc0 hc1 hc2 hf1 hf2
          generalize wr.drewN nq = wd at hCd hRd hrowd hPd hKd
          have hKs := hKd.size
          have hpr := hCd.lt
          have hc0 := hCd.c0
          have hc1 := hCd.c1
          have hbdx : Bd ((rest.drop 4).take (be rest)) := (hRd.bytes.drop _).take _
          have hxl : ((rest.drop 4).take (be rest)).length = be rest := by simp; omega
          have tok : True := trivial
          by_cases hcc : cc = 4
          · subst hcc
            obtain rfl : m = 4 := by omega
            have hbe : be rest = 0 := by omega
            have hRe : Rd wd (some ⟨b, o, none⟩) 0 0 [] := ⟨rfl, Nat.le_refl _, by unfold maxLen; omega, (fun e => by cases e), Bd.nil, fun _ _ j hj => by omega⟩
            have HE : Hid (cut M xs = ((pre ++ [[]]) ++ (cut M []).1, (cut M []).2)) := by
              have h := HB.out
              rw [hbe, List.take_zero, List.drop_of_length_le (l := rest) (by omega)] at h
              exact h
            go_wp2_with (first
              | (at_builtin; clear tok; (refine wp_app0 rfl _ _ rfl rfl _ 0 0 [] (slice_len (by omega) (by omega)) hRe (by omega) ?_); intro v3 w3 hown3 hb3 hv3; obtain ⟨g3, cap3, rfl⟩ := hv3; have hk3 : Keep (fun k => k = p) wd w3 := Keep.ofBelow hb3; have hrow3 := own_keep hrowd hk3 (fun k e h => absurd (hrowd.lt k e).1 (by omega)); have hC3 : RF w3 p M _ false := (hb3.block p hpr).trans hCd; have hx3 := hC3.c1; have hp3 := hC3.lt)
              | (at_builtin; (refine wpList_append_own _ rfl _ _ 22 rfl W.heap.size 31 i0 (.slice none 0 0) 1 24 Try.underlying22 hi hz0 hz1 hz2 rfl (by decide) _ pre.length vs rfl (hrow3.alloc _) ⟨w3.heap.size, 0, none⟩ 1 1 [.slice (some ⟨g3, 0, none⟩) 0 cap3] rfl rfl (cell_one_new _ _ _) (by simp [Value.oneCell']) (by unfold maxLen; omega) (by omega) (by have := hk3.size; simp; omega) ?_); intro v4 w4 hown4 hgr4 _; obtain ⟨g4, cap4, rfl⟩ := ownsRow_succ hown4; have hC4 : RF w4 p M _ false := (hgr4.block p (by simp; omega) (fun e => absurd (hrow3.lt p e.symm).1 (by omega))).trans ((Below.heap_alloc w3 _ p hp3).trans hC3); have hx4 := hC4.c1; have hy4 := hC4.fz 1))
            obtain ⟨k5, o5, P5, r5⟩ := ref_next (u' := .slice (some ⟨b, o, none⟩) 0 0) hpW hKd hPd hb3 hown3 Bd.nil rfl hrow3 hgr4 hown4
            have hC5 := hC4.set1 (.slice (some ⟨b, o, none⟩) 0 0)
            go_roundw
            case rel => exact ⟨pre ++ [[]], vs ++ [.slice (some ⟨g3, 0, none⟩) 0 cap3], _, _, _, _, some ⟨g4, 0, none⟩, cap4, by simp, hC5, r5 _ _ _ _ _ hbW hpb hRe, by simp; omega, by rw [List.length_append]; exact o5, P5, k5, HE⟩
            case measure => rw [hC5.heldLen, hML]; omega
          · by_cases hce : cc = 4 + be rest
            · obtain rfl : m = 4 + be rest := by omega
              subst hce
              have hR4 : Rd wd (some ⟨b, o + 4, none⟩) (be rest) (be rest) ((rest.drop 4).take (be rest)) := by
                have h := (hRd.drop (k := 4) (by omega)).take (k := be rest) (by omega)
                rwa [show 4 + be rest - 4 = be rest by omega] at h
              have hR5 : Rd wd (some ⟨b, o, none⟩) 0 0 (rest.drop (4 + be rest)) := by
                rw [List.drop_of_length_le (by omega)]
                exact ⟨rfl, Nat.le_refl _, by unfold maxLen; omega, (fun e => by cases e), Bd.nil, fun _ _ j hj => by omega⟩
              go_wp2_with (first
                | (at_builtin; clear tok; (refine wp_app0 rfl _ _ rfl rfl _ (be rest) (be rest) ((rest.drop 4).take (be rest)) (slice_len (by omega) (by omega)) hR4 (by omega) ?_); intro v3 w3 hown3 hb3 hv3; obtain ⟨g3, cap3, rfl⟩ := hv3; have hk3 : Keep (fun k => k = p) wd w3 := Keep.ofBelow hb3; have hrow3 := own_keep hrowd hk3 (fun k e h => absurd (hrowd.lt k e).1 (by omega)); have hC3 : RF w3 p M _ false := (hb3.block p hpr).trans hCd; have hx3 := hC3.c1; have hp3 := hC3.lt)
                | (at_builtin; (refine wpList_append_own _ rfl _ _ 22 rfl W.heap.size 31 i0 (.slice none 0 0) 1 24 Try.underlying22 hi hz0 hz1 hz2 rfl (by decide) _ pre.length vs rfl (hrow3.alloc _) ⟨w3.heap.size, 0, none⟩ 1 1 [.slice (some ⟨g3, 0, none⟩) (be rest) cap3] rfl rfl (cell_one_new _ _ _) (by simp [Value.oneCell']) (by unfold maxLen; omega) (by omega) (by have := hk3.size; simp; omega) ?_); intro v4 w4 hown4 hgr4 _; obtain ⟨g4, cap4, rfl⟩ := ownsRow_succ hown4; have hC4 : RF w4 p M _ false := (hgr4.block p (by simp; omega) (fun e => absurd (hrow3.lt p e.symm).1 (by omega))).trans ((Below.heap_alloc w3 _ p hp3).trans hC3); have hx4 := hC4.c1; have hy4 := hC4.fz 1))
              obtain ⟨k5, o5, P5, r5⟩ := ref_next (u' := .slice (some ⟨b, o, none⟩) 0 0) hpW hKd hPd hb3 hown3 hbdx hxl hrow3 hgr4 hown4
              have hC5 := hC4.set1 (.slice (some ⟨b, o, none⟩) 0 0)
              go_roundw
              case rel => exact ⟨pre ++ [(rest.drop 4).take (be rest)], vs ++ [.slice (some ⟨g3, 0, none⟩) (be rest) cap3], _, _, _, _, some ⟨g4, 0, none⟩, cap4, by simp, hC5, r5 _ _ _ _ _ hbW hpb hR5, by simp; omega, by rw [List.length_append]; exact o5, P5, k5, HB⟩
              case measure => rw [hC5.heldLen, hML]; omega
            · have hR4 := (hRd.drop (k := 4) (by omega)).take (k := be rest) (by omega)
              have hR5 := hRd.drop (k := 4 + be rest) (by omega)
              go_wp2_with (first
                | (at_builtin; clear tok; (refine wp_app0 rfl _ _ rfl rfl _ (be rest) (cc - 4) ((rest.drop 4).take (be rest)) (slice_len (by omega) (by omega)) hR4 (by omega) ?_); intro v3 w3 hown3 hb3 hv3; obtain ⟨g3, cap3, rfl⟩ := hv3; have hk3 : Keep (fun k => k = p) wd w3 := Keep.ofBelow hb3; have hrow3 := own_keep hrowd hk3 (fun k e h => absurd (hrowd.lt k e).1 (by omega)); have hC3 : RF w3 p M _ false := (hb3.block p hpr).trans hCd; have hx3 := hC3.c1; have hp3 := hC3.lt)
                | (at_builtin; (refine wpList_append_own _ rfl _ _ 22 rfl W.heap.size 31 i0 (.slice none 0 0) 1 24 Try.underlying22 hi hz0 hz1 hz2 rfl (by decide) _ pre.length vs rfl (hrow3.alloc _) ⟨w3.heap.size, 0, none⟩ 1 1 [.slice (some ⟨g3, 0, none⟩) (be rest) cap3] rfl rfl (cell_one_new _ _ _) (by simp [Value.oneCell']) (by unfold maxLen; omega) (by omega) (by have := hk3.size; simp; omega) ?_); intro v4 w4 hown4 hgr4 _; obtain ⟨g4, cap4, rfl⟩ := ownsRow_succ hown4; have hC4 : RF w4 p M _ false := (hgr4.block p (by simp; omega) (fun e => absurd (hrow3.lt p e.symm).1 (by omega))).trans ((Below.heap_alloc w3 _ p hp3).trans hC3); have hx4 := hC4.c1; have hy4 := hC4.fz 1))
              obtain ⟨k5, o5, P5, r5⟩ := ref_next (u' := .slice (some ⟨b, o + (4 + be rest), none⟩) (m - (4 + be rest)) (cc - (4 + be rest))) hpW hKd hPd hb3 hown3 hbdx hxl hrow3 hgr4 hown4
              have hC5 := hC4.set1 (.slice (some ⟨b, o + (4 + be rest), none⟩) (m - (4 + be rest)) (cc - (4 + be rest)))
              go_roundw
              case rel => exact ⟨pre ++ [(rest.drop 4).take (be rest)], vs ++ [.slice (some ⟨g3, 0, none⟩) (be rest) cap3], _, _, _, _, some ⟨g4, 0, none⟩, cap4, by simp, hC5, r5 _ _ _ _ _ hbW hpb hR5, by simp; omega, by rw [List.length_append]; exact o5, P5, k5, HB⟩
              case measure => rw [hC5.heldLen, hML]; omega

theorem refFeed_any (p M : Nat) (a0 : Option Addr) (n0 c0 : Nat) (held : List Int) (ab : Option Addr) (nb cb : Nat) (bs : List Int) (w : World) (hC : RF w p M (.slice a0 n0 c0) false) (hM : M < 9223372036854775808) (hH : Rd w a0 n0 c0 held)
    (hR : Rd w ab nb cb bs) (hlen : n0 + nb ≤ 1000000) : Calls Try.prog 13 #[.pointer (some ⟨p, 0, none⟩), .slice ab nb cb] w (FedR w p M (cut M (held ++ bs))) :=
  refFeed_aux p M a0 n0 c0 held ab nb cb bs w hC hM hH hR hlen _ (rfl : held ++ bs = _)

theorem refFeed_big (p M : Nat) (v : Value) (ab : Option Addr) (nb cb : Nat) (w : World) (hC : RF w p M v true) :
    Calls Try.prog 13 #[.pointer (some ⟨p, 0, none⟩), .slice ab nb cb] w fun e w' => e = .returned (.tuple #[.slice none 0 0, .int .i64 5]) ∧ w' = w := by
  have hc2 := hC.c2
  go_enter Try.func13, Try.ntmps13
  go_wp2
  go_ret2
  exact ⟨rfl, rfl⟩

end Go.Proofs.Ytmpoddgmkneffaa
