/- MeterWhole: of whole rates, costs and times no more is let through than the burst and the rate times the time. -/
import Derived.Test.YtmlkeobmkjdefaaMtQ
namespace Go.Proofs.Ytmlkeobmkjdefaa
open Go.RowKit

/-- What the law's bucket holds when 'sum' was let through, the time being 'now'. -/
structure Ws (R S : Nat) (b : Bk) (now sum l T : Nat) : Prop where
  r : b.r = E (64 * R)
  s : b.s = E (64 * S)
  lv : b.l = E (64 * l)
  ls : l ≤ S
  t : (b.t = NI ∧ T = 0) ∨ b.t = E (64 * T)
  tn : T ≤ now
  le : sum + l ≤ S + T * R

theorem E_feq0 {a : Nat} (ha : a < 2 ^ 53) : feq (E a) 0 = decide (a = 0) := by
  rw [feq_nz (E_amt ha) (E_64 ha), E_nz ha]
  by_cases h : a = 0
  · subst h; rw [E_zero]
  · rw [decide_eq_false h]
    have := E_pos ha (by omega)
    exact decide_eq_false (by omega)

theorem Ws.of {R S now sum l T r s v t : Nat} (hr : r = E (64 * R)) (hs : s = E (64 * S)) (hv : v = E (64 * l)) (ls : l ≤ S) (ht : (t = NI ∧ T = 0) ∨ t = E (64 * T)) (tn : T ≤ now) (le : sum + l ≤ S + T * R) : Ws R S ⟨r, s, v, t⟩ now sum l T := ⟨hr, hs, hv, ls, ht, tn, le⟩

theorem E_min {a b : Nat} (ha : a < 2 ^ 53) (hb : b < 2 ^ 53) : min (E a) (E b) = E (min a b) := by
  rcases Nat.le_total a b with q | q
  · rw [Nat.min_eq_left q, Nat.min_eq_left ((E_le_iff ha hb).2 q)]
  · rw [Nat.min_eq_right q, Nat.min_eq_right ((E_le_iff hb ha).2 q)]

theorem ws_lvl {R S : Nat} {b : Bk} {now sum l T : Nat} (h : Ws R S b now sum l T) (hR : R < 65536) (hS : S < 65536) {n2 : Nat} (hn : n2 ≤ 1000) (hlt : T < n2) (ht : b.t = E (64 * T)) :
    b.lvl (E (64 * n2)) = E (64 * min S (l + (n2 - T) * R)) := by
  have hl := h.ls
  have hm : (n2 - T) * R ≤ 1000 * 65536 := Nat.mul_le_mul (by omega) (by omega)
  generalize hd : n2 - T = d at *
  have ho : b.old (E (64 * n2)) = false := by
    unfold Bk.old
    rw [nan_pos (E_le (by omega)), ht, decide_eq_false (E_nNI (by omega)), E_fle (by omega) (by omega), decide_eq_false (by omega)]
    rfl
  have hf : b.full (E (64 * n2)) = false := by
    unfold Bk.full
    rw [h.r, decide_eq_false (E_ninf (by omega)), decide_eq_false (E_ninf (by omega))]
    rfl
  unfold Bk.lvl
  rw [ho, hf, if_neg (by decide), if_neg (by decide), h.r, E_feq0 (by omega)]
  by_cases h0 : R = 0
  · subst h0
    rw [if_pos (by decide), h.lv, Nat.mul_zero, Nat.add_zero, Nat.min_eq_right hl]
  · rw [if_neg (by simp; omega)]
    have e1 : b.grown (E (64 * n2)) = E (64 * (l + d * R)) := by
      unfold Bk.grown
      rw [h.r, h.lv, ht, E_sub (by omega) (by omega), Option.getD_some]
      have e2 : 64 * n2 - 64 * T = 64 * d := by omega
      have e3 : 64 * d * R = 64 * (d * R) := Nat.mul_assoc ..
      rw [e2, E_mul (by omega) (by omega), Option.getD_some, e3, E_add (by omega) (by omega), Option.getD_some, ← Nat.mul_add]
    have e4 : min (64 * S) (64 * (l + d * R)) = 64 * min S (l + d * R) := by omega
    rw [e1, h.s, E_min (by omega) (by omega), e4]

/-- What a Take has looked at. -/
theorem ws_seen {R S : Nat} {b : Bk} {now sum l T : Nat} (h : Ws R S b now sum l T) (hR : R < 65536) (hS : S < 65536) {n2 : Nat} (hn : n2 ≤ 1000) (hge : now ≤ n2) :
    ∃ l', Ws R S (b.seen (E (64 * n2))) n2 sum l' n2 := by
  have htn := h.tn
  have hl := h.ls
  have hle := h.le
  rcases h.t with ⟨ht, rfl⟩ | ht
  · refine ⟨l, ?_⟩
    have e1 : flt b.t (E (64 * n2)) = true := by
      rw [ht]
      unfold flt
      rw [nan_pos (E_le (by omega)), sr_pos (E_le (by omega))]
      have e2 : Fl.sr NI = -(Fl.inf : Int) := by decide
      have e3 : Fl.nan NI = false := by decide
      rw [e2, e3, decide_eq_true (by have : 0 < Fl.inf := by decide
                                     omega)]
      rfl
    have e2 : b.lvl (E (64 * n2)) = b.l := by
      unfold Bk.lvl Bk.old
      rw [ht]
      simp
    have e3 : b.seen (E (64 * n2)) = ⟨b.r, b.s, b.l, E (64 * n2)⟩ := by unfold Bk.seen; rw [e1, if_pos rfl, e2]
    rw [e3]
    refine Ws.of h.r h.s h.lv hl (Or.inr rfl) (Nat.le_refl _) ?_
    have := Nat.zero_le (n2 * R)
    rw [Nat.zero_mul] at hle
    omega
  · have e1 : flt b.t (E (64 * n2)) = decide (64 * T < 64 * n2) := by rw [ht, E_flt (by omega) (by omega)]
    by_cases hlt : T < n2
    · rw [decide_eq_true (by omega)] at e1
      have hv := ws_lvl h hR hS hn hlt ht
      have a1 : min S (l + (n2 - T) * R) ≤ l + (n2 - T) * R := Nat.min_le_right _ _
      have a2 : T * R + (n2 - T) * R = n2 * R := by rw [← Nat.add_mul, show T + (n2 - T) = n2 by omega]
      have a3 : min S (l + (n2 - T) * R) ≤ S := Nat.min_le_left _ _
      generalize min S (l + (n2 - T) * R) = l2 at *
      have e3 : b.seen (E (64 * n2)) = ⟨b.r, b.s, E (64 * l2), E (64 * n2)⟩ := by unfold Bk.seen; rw [e1, if_pos rfl, hv]
      rw [e3]
      exact ⟨l2, Ws.of h.r h.s rfl a3 (Or.inr rfl) (Nat.le_refl _) (by omega)⟩
    · obtain rfl : T = n2 := by omega
      rw [decide_eq_false (by omega)] at e1
      have e3 : b.seen (E (64 * T)) = b := by unfold Bk.seen; rw [e1]; rfl
      rw [e3]
      exact ⟨l, h.r, h.s, h.lv, hl, Or.inr ht, Nat.le_refl _, hle⟩

theorem ws_take {R S : Nat} {b : Bk} {now sum l T : Nat} (h : Ws R S b now sum l T) (hR : R < 65536) (hS : S < 65536) {n2 c : Nat} (hn : n2 ≤ 1000) (hge : now ≤ n2) (hc : c < 256) :
    ∃ l' T', ((b.tk (E (64 * n2)) (E (64 * c))).1 = 3 ∧ S < c ∧ Ws R S (b.tk (E (64 * n2)) (E (64 * c))).2 n2 sum l' T') ∨ ((b.tk (E (64 * n2)) (E (64 * c))).1 = 19 ∧ Ws R S (b.tk (E (64 * n2)) (E (64 * c))).2 n2 sum l' T') ∨ ((b.tk (E (64 * n2)) (E (64 * c))).1 = 0 ∧ Ws R S (b.tk (E (64 * n2)) (E (64 * c))).2 n2 (sum + c) l' T') := by
  have hk : chk b.s (E (64 * n2)) (E (64 * c)) = if 64 * S < 64 * c then 3 else 0 := by rw [h.s, E_chk (by omega) (by omega) (by omega)]
  unfold Bk.tk
  by_cases g : S < c
  · rw [if_pos (by omega)] at hk
    rw [hk, if_pos (by decide)]
    exact ⟨l, T, Or.inl ⟨rfl, g, h.r, h.s, h.lv, h.ls, h.t, by have := h.tn; omega, h.le⟩⟩
  · rw [if_neg (by omega)] at hk
    rw [hk, if_neg (by decide)]
    obtain ⟨l', h'⟩ := ws_seen h hR hS hn hge
    generalize b.seen (E (64 * n2)) = b1 at *
    have hl' := h'.ls
    rw [h'.lv, E_flt (by omega) (by omega)]
    by_cases g2 : 64 * l' < 64 * c
    · rw [decide_eq_true g2, if_pos rfl]
      exact ⟨l', n2, Or.inr (Or.inl ⟨rfl, h'⟩)⟩
    · rw [decide_eq_false g2, if_neg (by decide)]
      refine ⟨l' - c, n2, Or.inr (Or.inr ⟨rfl, ?_⟩)⟩
      have e1 : b1.less (E (64 * c)) = ⟨b1.r, b1.s, E (64 * (l' - c)), b1.t⟩ := by
        unfold Bk.less
        rw [h'.lv, E_sub (by omega) (by omega), Option.getD_some]
        have e2 : 64 * l' - 64 * c = 64 * (l' - c) := by omega
        rw [e2]
      rw [e1]
      have hle := h'.le
      exact Ws.of h'.r h'.s rfl (by omega) h'.t (Nat.le_refl _) (by omega)

theorem ws_sum {R S : Nat} {b : Bk} {now sum l T : Nat} (h : Ws R S b now sum l T) : sum ≤ S + now * R := by
  have h1 := h.le
  have h2 : T * R ≤ now * R := Nat.mul_le_mul_right _ h.tn
  omega

theorem ws_new {R S : Nat} (hS : S < 65536) : Ws R S (newB (E (64 * R)) (E (64 * S))) 0 0 S 0 :=
  Ws.of rfl (E_nz (by omega)) (E_nz (by omega)) (Nat.le_refl _) (Or.inl ⟨rfl, rfl⟩) (Nat.le_refl _) (by omega)

section
open Go.ChangeShapes Go.WideShapes Go.ChangeAt
theorem cellsWhole : Try.prog.cellsOf 47 = 4 := by kernel_rfl
theorem cellsU16 : Try.prog.cellsOf 44 = 1 := by kernel_rfl
theorem cellsByte : Try.prog.cellsOf 5 = 1 := by kernel_rfl
theorem cellsBytes : Try.prog.cellsOf 45 = 1 := by kernel_rfl
theorem rd_nilK (w : World) : Rd w none 0 0 [] := ⟨rfl, Nat.le_refl _, by unfold maxLen; omega, fun _ => rfl, Bd.nil, fun _ h => by cases h⟩

theorem rd_of_cells {H : Type} {enc : TypeId × Value → H} {W : World} {v : Value} {n : Nat} {y : DataW H × List MemPlace}
    (h : DataW.trod enc Try.prog W 0 (fun _ => true) true n 45 [v] = some y) : ∃ a n c zs, v = .slice a n c ∧ Rd W a n c zs := by
  rcases open_ints Try.underlying45 Try.underlying5 (by kernel_rfl) h with ⟨hcs, _⟩ | ⟨x, l, cc, zs, hcs, _, hl, hm, hz, _, hcell, hwz⟩
  · simp only [List.cons.injEq, and_true] at hcs
    exact ⟨none, 0, 0, [], hcs, rd_nilK W⟩
  · simp only [List.cons.injEq, and_true] at hcs
    have hz' : zs.length = cc := by simpa using hz
    refine ⟨some x, l, cc, zs.take l, hcs, by rw [List.length_take]; omega, hl, hm, (fun h => by cases h), fun y hy => ?_, fun ad had j hj => ?_⟩
    · have := bounds_u8 (hwz y (List.mem_of_mem_take hy)); omega
    · cases had
      rw [hcell j (by omega)]
      simp [List.getD, hj]

theorem open_whole {H : Type} {enc : TypeId × Value → H} {W : World} {b0 : Nat} {v : Value} {d : DataW H} {p : List MemPlace}
    (hv : Value.okWide Try.prog W .any b0 47 v) (h : DataW.Trod enc Try.prog W 0 (fun _ => true) true 47 v d p) :
    ∃ (R S : Nat) (a : Option Addr) (n c : Nat) (xs : List Int) (b : Option Addr) (m e : Nat) (ys : List Int), R < 65536 ∧ S < 65536 ∧ v = .agg #[.int .u16 R, .int .u16 S, .slice a n c, .slice b m e] ∧ Rd W a n c xs ∧ Rd W b m e ys := by
  obtain ⟨cs, rfl, hsz⟩ := okWide_struct Try.underlying47 hv
  obtain ⟨c0, c1, c2, c3, rfl⟩ := arr4 (hsz.trans cellsWhole)
  obtain ⟨fuel, hf⟩ := h
  obtain ⟨ys, n, _, hx, hl, hlen, hfs⟩ := DataW.trod_struct Try.underlying47 hf
  match ys, hlen with
  | [y0, y1, y2, y3], _ =>
    have f0 : DataW.trod enc Try.prog W 0 (fun _ => true) true n 44 [c0] = some y0 := by simpa [Value.cells, cellsU16] using hfs 0 _ rfl
    have f1 : DataW.trod enc Try.prog W 0 (fun _ => true) true n 44 [c1] = some y1 := by simpa [Value.cells, cellsU16] using hfs 1 _ rfl
    have f2 : DataW.trod enc Try.prog W 0 (fun _ => true) true n 45 [c2] = some y2 := by simpa [Value.cells, cellsBytes] using hfs 2 _ rfl
    have f3 : DataW.trod enc Try.prog W 0 (fun _ => true) true n 45 [c3] = some y3 := by simpa [Value.cells, cellsBytes] using hfs 3 _ rfl
    obtain ⟨M, e0, _, w0⟩ := DataW.trod_int Try.underlying44 f0
    obtain ⟨S, e1, _, w1⟩ := DataW.trod_int Try.underlying44 f1
    simp only [List.cons.injEq, and_true] at e0 e1
    subst e0 e1
    have q0 := bounds_u16 w0
    have q1 := bounds_u16 w1
    obtain ⟨M, rfl⟩ := Int.eq_ofNat_of_zero_le q0.1
    obtain ⟨S, rfl⟩ := Int.eq_ofNat_of_zero_le q1.1
    obtain ⟨a, l, c, zs, rfl, hR⟩ := rd_of_cells f2
    obtain ⟨b, m, e, us, rfl, hM⟩ := rd_of_cells f3
    exact ⟨M, S, a, l, c, zs, b, m, e, us, by have := q0.2; omega, by have := q1.2; omega, rfl, hR, hM⟩
end

theorem bd_nat {xs : List Int} (h : Bd xs) {j : Nat} (hj : j < xs.length) : ∃ k : Nat, xs.getD j 0 = (k : Int) ∧ k < 256 := by
  have hm : xs.getD j 0 ∈ xs := by simp [List.getD, List.getElem?_eq_getElem hj]
  have := h _ hm
  exact ⟨(xs.getD j 0).toNat, by omega, by omega⟩

set_option maxRecDepth 100000 in
set_option maxHeartbeats 3200000 in
theorem whole_law (R S : Nat) (a : Option Addr) (n c : Nat) (xs : List Int) (b : Option Addr) (m e : Nat) (ys : List Int) (hRr : R < 65536) (hS : S < 65536) (w : World) (hR : Rd w a n c xs) (hM : Rd w b m e ys) :
    Calls Try.prog 5 #[.agg #[.int .u16 R, .int .u16 S, .slice a n c, .slice b m e]] w fun e w' => e = .returned (.bool true) ∧ Below w.heap.size w w' := by
  have hcv : ∀ (q : IntKind) (t : TypeId) (z : Nat) (w : World), (Try.prog.underlying t).isSome = true → (convert t 24 (.int q (z : Int))).run Try.prog w = .ok (.float .f64 (E (64 * z))) w := fun q t z w h => by rw [run_convert_int_float w t 24 q .f64 z h Try.underlying24, E_int]
  have c1 := fun z w => hcv .u16 44 z w (by kernel_rfl)
  have c2 := fun z w => hcv .u64 22 z w (by kernel_rfl)
  have c3 := fun z w => hcv .u8 5 z w (by kernel_rfl)
  clear hcv
  have hn1 := hR.cap
  have hn2 : c ≤ 9223372036854775807 := hR.most
  have hm1 := hM.cap
  have hm2 : e ≤ 9223372036854775807 := hM.most
  have hfine : Hid (fine (E (64 * R)) (E (64 * S)) = true) := by
    unfold Hid fine
    rw [E_amt (by omega), E_amt (by omega), decide_eq_false (E_ninf (by omega))]
    rfl
  have N1 := fun w => new_ok (E (64 * R)) (E (64 * S)) (E_64 (by omega)) hfine.out w
  have hok := newB_ok (E_64 (show 64 * R < 2 ^ 53 by omega)) (E_64 (show 64 * S < 2 ^ 53 by omega)) hfine.out
  have hws := ws_new (R := R) hS
  have HW := wakes_any
  generalize newB (E (64 * R)) (E (64 * S)) = b0 at *
  have HER : ∃ er, er = E (64 * R) := ⟨_, rfl⟩
  clear hfine HER
  have hb0 : ∀ nq, Below w.heap.size w ((w.alloc (Obj.cells #[.int .u16 R, .int .u16 S, .slice a n c, .slice b m e] 47)).drewN nq) := fun nq => (((Keep.refl (fun _ => False) _).alloc _).drewN nq).below (Nat.le_refl _) (fun _ h => h.elim)
  go_enter Try.func5, Try.ntmps5
  go_upto_region 1 with fail
  go_quiet (fail)
  have hb1 := hb0 nq
  clear hb0
  generalize (w.alloc (Obj.cells #[.int .u16 R, .int .u16 S, .slice a n c, .slice b m e] 47)).drewN nq = w1 at *
  go_upto_region 5 with (first
    | (go_at_call 9; refine (N1 _).mono ?_; clear N1; rintro e w2 ⟨p, rfl, hB2, hp2, hb2⟩)
    | (go_at_call 11; refine (HW _).mono ?_; clear HW; rintro e w3 ⟨rfl, hb3⟩))
  have hO : One w p w3 b0 := ⟨hB2.below hb3, hok, (hb1.trans (hb2.mono hb1.size)).trans (hb3.mono (hb1.trans (hb2.mono hb1.size)).size), Nat.le_trans hb1.size hp2⟩
  clear hB2 hp2 hb2 hb3 hb1 hok
  go_wp2
  go_loopw [9, 10, 11, 12] (fun nw sm i _ wr => ∃ (j now sum l T : Nat) (bk : Bk), nw = .int .u64 now ∧ sm = .int .u64 sum ∧ i = .int .i64 j ∧ j ≤ 300 ∧ now ≤ 3 * j ∧ One w p wr bk ∧ Ws R S bk now sum l T) (fun _ _ i _ _ => 300 - natV i)
  case atStart => exact ⟨0, 0, 0, S, 0, b0, rfl, rfl, rfl, Nat.zero_le _, Nat.le_refl _, hO, hws⟩
  case round =>
    clear hO hws
    obtain ⟨j, now, sum, l, T, bk, rfl, rfl, rfl, hj, hnow, hO, hws⟩ := hrel
    by_cases hlt : j < n ∧ j < m ∧ j < 300
    · have hz1 : (j : Int) < (n : Int) := by omega
      have hz2 : (j : Int) < (m : Int) := by omega
      have hz3 : (j : Int) < 300 := by omega
      obtain ⟨g1, o1, rfl, q1⟩ := (hR.carry (Nat.le_refl _) hO.bel).flat (by omega)
      obtain ⟨g2, o2, rfl, q2⟩ := (hM.carry (Nat.le_refl _) hO.bel).flat (by omega)
      replace q1 := q1 j hlt.1
      replace q2 := q2 j hlt.2.1
      obtain ⟨x, hx, hx2⟩ := bd_nat hR.bytes (show j < xs.length by rw [hR.len]; exact hlt.1)
      obtain ⟨y, hy, hy2⟩ := bd_nat hM.bytes (show j < ys.length by rw [hM.len]; exact hlt.2.1)
      rw [hx] at q1
      rw [hy] at q2
      clear hx hy
      obtain ⟨k, hk1, hk2⟩ : ∃ k : Nat, (x : Int).tmod 4 = (k : Int) ∧ k < 4 := ⟨x % 4, by rw [Int.tmod_eq_emod_of_nonneg (by omega)]; omega, Nat.mod_lt _ (by omega)⟩
      have hk3 : IntKind.u64.wrap (k : Int) = (k : Int) := by rw [IntKind.wrap_u64]; omega
      obtain ⟨n2, hn2'⟩ : ∃ n2, n2 = now + k := ⟨_, rfl⟩
      have hk4 : (now : Int) + (k : Int) = (n2 : Int) := by omega
      have hy3 : IntKind.u64.wrap (y : Int) = (y : Int) := by rw [IntKind.wrap_u64]; omega
      have hR3 : IntKind.u64.wrap (R : Int) = (R : Int) := by rw [IntKind.wrap_u64]; omega
      have hS3 : IntKind.u64.wrap (S : Int) = (S : Int) := by rw [IntKind.wrap_u64]; omega
      have hnR : n2 * R ≤ 1000 * 65536 := Nat.mul_le_mul (by omega) (by omega)
      obtain ⟨P, hP⟩ : ∃ P, P = n2 * R := ⟨_, rfl⟩
      rw [← hP] at hnR
      have hP3 : (n2 : Int) * (R : Int) = (P : Int) := by rw [hP, Int.natCast_mul]
      obtain ⟨l2, T2, hcs⟩ := ws_take hws hRr hS (n2 := n2) (c := y) (by omega) (by omega) hy2
      have T1 := take_any p bk hO.ok (E (64 * n2)) (E (64 * y)) (E_64 (by omega)) (E_64 (by omega)) wr hO.at_
      have hk' := tk_ok hO.ok (now := E (64 * n2)) (cost := E (64 * y)) (E_64 (by omega)) (E_64 (by omega))
      clear hws
      have c4 := c2 n2
      have c5 := c3 y
      clear c1 c2 c3
      generalize (bk.tk (E (64 * n2)) (E (64 * y))).1 = z at *
      generalize (bk.tk (E (64 * n2)) (E (64 * y))).2 = b2 at *
      generalize E (64 * n2) = en at *
      generalize E (64 * y) = ey at *
      have hn2a : now ≤ n2 := by omega
      have hn2b : n2 ≤ now + 3 := by omega
      have HP : Hid (P = n2 * R) := hP
      clear hn2' hP
      have hgl : g2 < w.heap.size := by
        have := World.block_lt_of_cell? w _ (hM.cells _ rfl j hlt.2.1)
        rw [add_flat] at this
        exact this
      have hgp : g2 ≠ p := fun e => by have := hO.new; omega
      rcases hcs with ⟨rfl, hSc, hw2⟩ | ⟨rfl, hw2⟩ | ⟨rfl, hw2⟩
      · have hgt : (S : Int) < (y : Int) := by omega
        have hfin : ¬ ((S : Int) + (P : Int) < (sum : Int)) := by have := ws_sum hw2; rw [← HP.out] at this; omega
        go_wp2_with (first
          | (go_at_call 17; refine T1.mono ?_; clear T1; rintro e w5 ⟨rfl, hB5, hk5⟩; have q5 := hk5.cell q2 hgp))
        go_roundw
        case rel => exact ⟨j + 1, n2, sum, l2, T2, b2, rfl, rfl, by go_num, by omega, by omega, hO.turn hk5 hB5 hk', hw2⟩
        case measure => simp [natV]; omega
      · have hfin : ¬ ((S : Int) + (P : Int) < (sum : Int)) := by have := ws_sum hw2; rw [← HP.out] at this; omega
        go_wp2_with (first
          | (go_at_call 17; refine T1.mono ?_; clear T1; rintro e w5 ⟨rfl, hB5, hk5⟩; have q5 := hk5.cell q2 hgp))
        go_roundw
        case rel => exact ⟨j + 1, n2, sum, l2, T2, b2, rfl, rfl, by go_num, by omega, by omega, hO.turn hk5 hB5 hk', hw2⟩
        case measure => simp [natV]; omega
      · have hsl := ws_sum hw2
        rw [← HP.out] at hsl
        obtain ⟨s2, hs2⟩ : ∃ s2, s2 = sum + y := ⟨_, rfl⟩
        have hs3 : (sum : Int) + (y : Int) = (s2 : Int) := by omega
        rw [← hs2] at hw2 hsl
        have hfin : ¬ ((S : Int) + (P : Int) < (s2 : Int)) := by omega
        clear hs2
        go_wp2_with (first
          | (go_at_call 17; refine T1.mono ?_; clear T1; rintro e w5 ⟨rfl, hB5, hk5⟩; have q5 := hk5.cell q2 hgp))
        go_roundw
        case rel => exact ⟨j + 1, n2, s2, l2, T2, b2, rfl, rfl, by go_num, by omega, by omega, hO.turn hk5 hB5 hk', hw2⟩
        case measure => simp [natV]; omega
    · by_cases g1 : j < n
      · have hz1 : (j : Int) < (n : Int) := by omega
        by_cases g2 : j < m
        · have hz2 : (j : Int) < (m : Int) := by omega
          have hz3 : ¬ (j : Int) < 300 := by omega
          go_wp2
          go_ret
          exact ⟨rfl, hO.bel⟩
        · have hz2 : ¬ (j : Int) < (m : Int) := by omega
          go_wp2
          go_ret
          exact ⟨rfl, hO.bel⟩
      · have hz1 : ¬ (j : Int) < (n : Int) := by omega
        go_wp2
        go_ret
        exact ⟨rfl, hO.bel⟩

end Go.Proofs.Ytmlkeobmkjdefaa
