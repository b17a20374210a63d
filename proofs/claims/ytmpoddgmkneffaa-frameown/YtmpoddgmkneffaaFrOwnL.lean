/- FrameOwn: whatever pieces: what is handed in stays as it was, spare room too, and is not kept; what is told is the caller's own; the law returns true and nothing that was there is written. For every input, no condition. -/
import Derived.Test.YtmpoddgmkneffaaRows
import Derived.Test.YtmpoddgmkneffaaFrOwnP
namespace Go.Proofs.Ytmpoddgmkneffaa.frameOwn
open Go.ChangeShapes Go.WideShapes Go.ChangeAt Go.RowKit Go.Shelf
open Go.Proofs.Ytmpoddgmkneffaa

theorem duo0 {W : World} {p q M : Nat} (h1 : RC W p M (.slice none 0 0) false) (h2 : RF W q M (.slice none 0 0) false) : Duo W p (.slice none 0 0) q (.slice none 0 0) M [] false [] false :=
  ⟨h1, World.ownsRow_nil _ _ _ _, Bd.nil, (fun h => by cases h), h2, ⟨none, 0, rfl, rd_nil _⟩, (fun h => by cases h), (fun h => by cases h), (fun h => by cases h), (fun h => by cases h), (fun k h => by cases h), fun k hf => by
    rcases hf with rfl | rfl | h | h
    · exact h1.lt
    · exact h2.lt
    · cases h
    · cases h⟩

theorem cut_each (M : Nat) (l : List Int) : ∀ x ∈ (cut M l).1, x.length ≤ M := by
  induction l using cut_induct M with
  | case1 l h => rw [cut_short h]; intro x hx; cases hx
  | case2 l h h2 => rw [cut_big h h2]; intro x hx; cases hx
  | case3 l h h2 h3 => rw [cut_wait h h2 h3]; intro x hx; cases hx
  | case4 l h h2 h3 ih =>
    rw [cut_more h h2 h3]
    intro x hx
    rcases List.mem_cons.1 hx with g | g
    · subst g; rw [List.length_take]; omega
    · exact ih x g
theorem stepS_each {M : Nat} {held : List Int} {big : Bool} {bs : List Int} : ∀ x ∈ (stepS M held big bs).1, x.length ≤ M := by
  unfold stepS
  cases big with
  | true => intro x hx; simp at hx
  | false => exact cut_each M _

/-- All that the law holds at the head of a round. -/
def Head (B : Nat) (p q pk : Nat) (k : Nat) (n : Value) (W : World) : Prop :=
  ∃ (v u : Value) (h : List Int) (b : Bool) (fv wv : Value) (fs ws : List Value) (ys : List (List Int)) (N pn : Nat) (lv mv : Value) (ls ms : List Value) (xs : List (List Int)),
    n = .pointer (some ⟨pn, 0, none⟩) ∧ DB B W p v q u h b h b pk fv wv fs ws ys N ∧ LoanAt W pn lv mv ls ms xs ∧ (∀ j, LF pn lv mv ls ms j → ¬ DF p v q u pk fv wv fs ws j) ∧ (∀ j, LF pn lv mv ls ms j → B ≤ j) ∧
    ls.length ≤ 2 ∧ (∀ x ∈ xs, x.length ≤ 605) ∧ h.length ≤ 600 * k

set_option maxHeartbeats 6400000 in
set_option maxRecDepth 4000000 in
theorem walk (br : Option Addr) (n c : Nat) (xs : List (List Int)) (w : World) (hR : RRd w br n xs) :
    Calls Try.prog 6 #[.slice br n c] w fun e w' => e = .returned (.bool true) ∧ Below w.heap.size w w' := by
  have hmx := hR.most
  have hxl := hR.len
  have hL0 := LoanAt.new w
  have hK0 := BookAt.new (w.alloc (.cells #[.slice none 0 0, .slice none 0 0] 47))
  have hb0 : Below w.heap.size w ((w.alloc (.cells #[.slice none 0 0, .slice none 0 0] 47)).alloc (.cells #[.slice none 0 0, .slice none 0 0, .slice none 0 0, .slice none 0 0, .int .i64 0] 50)) := ((Below.refl _ _).alloc (Nat.le_refl _) _).alloc (by simp) _
  have hL1 := hL0.keep (S := fun _ => False) ((Keep.refl _ _).alloc (.cells #[.slice none 0 0, .slice none 0 0, .slice none 0 0, .slice none 0 0, .int .i64 0] 50)) (fun _ _ h => h)
  have hes : (w.alloc (.cells #[.slice none 0 0, .slice none 0 0] 47)).heap.size = w.heap.size + 1 := by simp
  rw [hes] at hK0
  clear hes hL0
  go_enter Try.func6, Try.ntmps6
  go_wp2_with (first
    | (go_at_call 8; refine (new_any 100 _ (by omega) (by omega)).mono ?_; rintro e w1 ⟨rfl, hC1, hb1⟩)
    | (go_at_call 9; refine (refNew_any 100 _ (by omega) (by omega)).mono ?_; rintro e w2 ⟨rfl, hC2, hb2⟩)
    | (go_at_call 10; refine (wakes_any _).mono ?_; rintro e w3 ⟨rfl, hb3⟩))
  have hes2 : ((w.alloc (.cells #[.slice none 0 0, .slice none 0 0] 47)).alloc (.cells #[.slice none 0 0, .slice none 0 0, .slice none 0 0, .slice none 0 0, .int .i64 0] 50)).heap.size = w.heap.size + 1 + 1 := by simp
  have hk1 := Keep.ofBelow (S := fun _ => False) hb1
  have hk13 := hk1.trans ((Keep.ofBelow hb2).trans (Keep.ofBelow hb3))
  rw [hes2] at hC1
  have hs1 := hC1.lt
  have hs2 := hb2.size
  have hs3 := hb3.size
  have hC1' : RC w3 (w.heap.size + 1 + 1) 100 (.slice none 0 0) false := ((hb3.block _ (by omega)).trans (hb2.block _ hs1)).trans hC1
  have hC2' : RF w3 w1.heap.size 100 (.slice none 0 0) false := (hb3.block _ hC2.lt).trans hC2
  have hB3 : Below w.heap.size w w3 := ((hb0.trans (hb1.mono hb0.size)).trans (hb2.mono (by omega))).trans (hb3.mono (by omega))
  have hH0 : Head w.heap.size (w.heap.size + 1 + 1) w1.heap.size (w.heap.size + 1) 0 (.pointer (some ⟨w.heap.size, 0, none⟩)) w3 := by
    refine ⟨_, _, [], false, _, _, _, _, _, _, _, _, _, _, _, _, rfl, ⟨duo0 hC1' hC2', hK0.keep hk13 (fun _ _ h => h), ?_, ?_, ?_⟩, hL1.keep hk13 (fun _ _ h => h), ?_, ?_, by simp, (fun x hx => by cases hx), by simp⟩
    · rintro j (rfl | (e | e) | (e | e)) (f | f | f | f) <;> first | (cases e; done) | (cases f; done) | omega
    · rintro j (f | f | f | f) <;> first | (cases f; done) | omega
    · rintro j (rfl | (e | e) | (e | e)) <;> first | (cases e; done) | omega
    · rintro j (rfl | (e | e) | (e | e)) f
      · rcases f with (f | f | f | f) | (f | (f | f) | (f | f)) <;> first | (cases f; done) | omega
      all_goals cases e
    · rintro j (rfl | (e | e) | (e | e)) <;> first | (cases e; done) | omega
  clear hL1 hK0 hb0 hC1 hC2 hC1' hC2' hk1 hk13 hb1 hb2 hb3 hs1 hs2 hs3 hes2
  generalize w1.heap.size = q at hH0 ⊢
  generalize hpe : w.heap.size + 1 + 1 = p at hH0 ⊢
  generalize hpk : w.heap.size + 1 = pk at hH0 hpe ⊢
  clear hpe hpk
  go_loopw [3, 7, 8, 9, 10, 11, 12] (fun nv i _ _ _ _ _ wr => ∃ k : Nat, i = .int .i64 k ∧ k ≤ n ∧ k ≤ 30 ∧ Head w.heap.size p q pk k nv wr ∧ Below w.heap.size w wr) (fun _ i _ _ _ _ _ _ => 30 - (intOf i).toNat)
  case atStart => exact ⟨0, rfl, by omega, by omega, hH0, hB3⟩
  case round =>
    clear hH0 hB3
    obtain ⟨k, rfl, hkn, hk30, hHd, hB⟩ := hrel
    obtain ⟨v, u, h, b, fv, wv, fs, ws, ys, N, pn, lv, mv, ls, ms, zs, rfl, D, L, hap, hnl, hll, hzs, hhl⟩ := hHd
    have hBs := hB.size
    by_cases hgo : k < n ∧ k < 30
    · obtain ⟨hlt, h30⟩ := hgo
      have hlz : (k : Int) < (n : Int) := by omega
      have h3z : (k : Int) < 30 := by omega
      obtain ⟨b0, off, rfl, hc⟩ := hR.flat (by omega)
      obtain ⟨aj, nj, cj, hcell, hrd⟩ := hc k hlt
      have hbl : b0 < w.heap.size := World.block_lt_of_cell? w _ hcell
      have hcell' : wr.cell? ⟨b0, off + k, none⟩ = some (.slice aj nj cj) := (hB.cell (p := ⟨b0, off + k, none⟩) hbl).trans hcell
      generalize xs.getD k [] = yy at hrd
      obtain ⟨Y, HY⟩ : ∃ Y, Hid (yy.take 600 = Y) := ⟨_, rfl⟩
      obtain ⟨r, HR⟩ : ∃ r, Hid (stepS 100 h b Y = r) := ⟨_, rfl⟩
      have hYl : Y.length ≤ 600 := by rw [← HY.out, List.length_take]; omega
      have hYb : Hid (Bd Y) := by
        show Bd Y
        rw [← HY.out]; exact hrd.bytes.take _
      have hrl := stepS_len (M := 100) (held := h) (big := b) (bs := Y)
      rw [HR.out] at hrl
      have hrb : Hid (Bd r.2.1) := by
        show Bd r.2.1
        rw [← HR.out]; exact stepS_bd D.duo.bd hYb.out
      have hrn : Hid (r.2.2 = true → r.2.1 = []) := by
        show r.2.2 = true → r.2.1 = []
        rw [← HR.out]; exact stepS_nil
      have hml : ms.length ≤ 2 := by rw [L.two.g.ows.len, ← L.two.f.ows.len]; exact hll
      have tA : True := trivial
      clear hc
      go_upto_region 13 with (first
        | (go_at_call 12; clear tA; refine (fewR aj nj cj yy _ (hrd.carry (Nat.le_refl _) hB)).mono ?_; rintro e wa ⟨a1, n1, c1, rfl, hn1, hr1, hb1, _⟩; rw [HY.out] at hr1; have D1 := D.below hb1; have L1 := L.keep (S := fun _ => False) (Keep.ofBelow hb1) (fun _ _ h => h); have hBa := hB.trans (hb1.mono hBs); have hsa := hb1.size)
        | (go_at_call 19; refine (loanBytes_any pn lv mv ls ms zs a1 n1 c1 Y _ L1 hr1 (by omega) (by omega) (by omega)).mono ?_; rintro e wb ⟨g, cap, lv2, mv2, ml, rfl, L2, hr2, hg2, hf2, hk2⟩; have D2 := D1.keep hk2 (fun j e s => hap j s e); have hsb := hk2.size; have hBb := hBa.trans (hk2.below (by omega) (fun j s => hnl j s)))
        | (go_at_call 11; refine (feedN p 100 v h b (some ⟨g, 0, none⟩) n1 cap Y _ D2.duo.rc D2.duo.own D2.duo.bd D2.duo.nil hr2 (by omega) r HR).mono ?_; rintro e wc ⟨al, cl, vl, v', rfl, hC3, ho3, hw3, hrow3, hP3, hlt3, hk3⟩; have hap2 : ∀ j, LF pn lv2 mv2 (ls ++ [.slice (some ⟨g, 0, none⟩) (n1 + 5) cap]) (ms ++ [ml]) j → ¬ DF p v q u pk fv wv fs ws j := (fun j e f => (hf2 j e).elim (fun e => hap j e f) (fun e => absurd (D1.lt j f) (by omega))); have D3 := D2.fed (by omega) hC3 ho3 hw3 hk3 hrb.out hrn.out; have L3 := L2.keep hk3 (fun j e s => hap2 j e (.inl (s.elim .inl (fun s => .inr (.inr (.inl s)))))); have hsc := hk3.size; have hBc := hBb.trans (hk3.below (by omega) (fun j s => D2.nd j (s.elim .inl (fun s => .inr (.inr (.inl s)))))))
        | (go_at_call 20; refine (loanBack_any pn lv2 mv2 _ _ _ _ L3 (by rw [List.length_append]; simp; omega) (fun x hx => by rcases List.mem_append.1 hx with hx | hx; (have := hzs x hx; omega); (simp at hx; rw [hx, List.length_append]; simp [marks5]; omega))).mono ?_; rintro e wd ⟨rfl, hk4⟩; have hL2 := L2.lt; have D4 := D3.keep hk4 (fun j e s => by have h1 := hL2 j s; rcases e with (e | e | e | e) | e; exact hap2 j s (.inl (.inl e)); exact hap2 j s (.inl (.inr (.inl e))); exact (hw3 j e).elim (fun e => hap2 j s (.inl (.inr (.inr (.inl e))))) (fun e => by omega); exact hap2 j s (.inl (.inr (.inr (.inr e)))); exact hap2 j s (.inr e)); have hrow4 := own_keep hrow3 hk4 (fun j e s => by have h1 := (hrow3.lt j e).1; have h2 := hL2 j s; omega); have hP4 := hP3.keep hk4 (fun j cur hl _ s => by have h2 := hL2 j s; omega); have hsd := hk4.size; have hBd := hBc.trans (hk4.below (by omega) (fun j s => (hf2 j s).elim (fun e => hnl j e) (fun e => by omega))); have hcelld : wd.cell? ⟨b0, off + k, none⟩ = some (.slice aj nj cj) := (hBd.cell (p := ⟨b0, off + k, none⟩) hbl).trans hcell)
        | (go_at_call 12; refine (fewR aj nj cj yy _ (hrd.carry (Nat.le_refl _) hBd)).mono ?_; rintro e we ⟨a5, n5, c5, rfl, hn5, hr5, hb5, _⟩; rw [HY.out] at hr5; have D5 := D4.below hb5; have hse := hb5.size; have hBe := hBd.trans (hb5.mono hBd.size); obtain ⟨a0, c0, hu0, hr0⟩ := D5.duo.rd; subst hu0)
        | (go_at_call 13; have H6 := refFeedS q 100 a0 h.length c0 h b a5 n5 c5 Y _ D5.duo.rf (by omega) hr0 D5.duo.nil' hr5 (by omega) (fun ad e => D5.duo.lt ad.block (.inr (.inr (.inr (by rw [e]; rfl))))); rw [HR.out] at H6; refine H6.mono ?_; clear H6; rintro e wf ⟨am, cm, vm, a', n', c', he6, hC6, hr6, hlt6, hw6, hrow6, hP6, hk6⟩; obtain rfl : e = .returned (.tuple #[.slice am r.1.length cm, .int .i64 (errN r.2.2)]) := he6; have D6 := D5.fedD (by omega) hC6 hr6 hlt6 hw6 hk6 hrn.out; have hsf := hk6.size))
      have hdl := D1.lt
      have hqa : q < wa.heap.size := hdl q (.inl (.inr (.inl rfl)))
      have hrow6' := own_keep (own_keep hrow4 (Keep.ofBelow (S := fun _ => False) hb5) (fun _ _ h => h)) hk6 (fun j e s => by have h1 := (hrow3.lt j e).1; omega)
      have hP6' := (hP4.keep (Keep.ofBelow (S := fun _ => False) hb5) (fun _ _ _ _ h => h)).keep hk6 (fun j cur hl _ s => by omega)
      have rl := rrd_of hrow6' hP6' rfl (by omega)
      have rm := rrd_of hrow6 hP6 rfl (by omega)
      obtain ⟨hO6, _, _⟩ := hP6'.ows
      obtain ⟨hO3, hNd, hLo⟩ := hP3.ows
      have hvB : ∀ j ∈ blks vl, w.heap.size ≤ j := fun j hj => by have := hLo j hj; omega
      have hHi : ∀ j ∈ blks vl, j < wc.heap.size := fun j e => hO3.lt j e
      have hve : ∀ x ∈ r.1, x.length ≤ 100 := by rw [← HR.out]; exact stepS_each
      have HVE : Hid (∀ x ∈ r.1, x.length ≤ 100) := hve
      have hBf := hBe.trans (hk6.below (by omega) (fun j s => D5.nd j (.inr (.inl s))))
      have hvd : Hid (∀ j ∈ blks vl, ¬ DF p v' q (.slice a' n' c') pk fv wv fs ws j) := by
        show ∀ j ∈ blks vl, ¬ DF p v' q (.slice a' n' c') pk fv wv fs ws j
        intro j hj e
        have h1 := hLo j hj
        have h2 := hHi j hj
        rcases e with (e | e | e | e) | e
        · have := hdl j (.inl (.inl e)); omega
        · have := hdl j (.inl (.inr (.inl e))); omega
        · obtain ⟨x, hx, hxb⟩ := mem_blks.1 hj
          have := hlt3 j e x hx j hxb
          omega
        · rcases hw6 j e with e | e
          · have := hdl j (.inl (.inr (.inr (.inr e)))); omega
          · omega
        · have := hdl j (.inr e); omega
      have hrb6 : ∀ j, (Value.slice al r.1.length cl).ownBlock = some j → ¬ BF pk fv wv fs ws j := fun j e s => by have h1 := (hrow3.lt j e).1; have := hdl j (.inr s); omega
      have hnl6 := hr6.len
      clear hrow3 hP3 hlt3 hrow4 hP4 hrow6 hP6 hO3 hP6' hw3 hw6 hC3 ho3 hC6 hlt6 hk2 hk3 hk4 hk6 hb1 hb5 D D1 D2 D3 D4 D5 L L1 L2 L3 hL2 hap hap2 hnl hf2 hr1 hr2 hr5 hr0 hr6 hBa hBb hBc hBd hBe hHi hLo hcelld hcell' hve hdl
      go_wp2_with (go_at_call 14; refine (same_true al am r.1.length cl cm r.1 _ rl rm).mono ?_; rintro e wg ⟨rfl, dd, hwg⟩; have hkg : Keep (fun _ => False) wf wg := (by rw [hwg]; exact keep_drewN (Keep.refl _ _) dd); clear hwg)
      have D7 := D6.keep hkg (fun _ _ h => h)
      have hO7 := hO6.keep hkg (fun _ _ h => h)
      have hrow7 := own_weak (own_keep hrow6' hkg (fun _ _ h => h)) (Nat.zero_le _)
      have hBg : Below w.heap.size w wg := hBf.trans (hkg.below (by have := hBf.size; omega) (fun _ h => h.elim))
      have hvl : vl.length = r.1.length := hO7.len
      have HVL : Hid (vl.length = r.1.length) := hvl
      clear hkg D6 hO6 hrow6' hBf rl rm hvl
      go_loopw [12] (fun jv wx => ∃ (jn : Nat) (fv wv : Value) (fs ws : List Value) (ys : List (List Int)) (N : Nat), jv = .int .i64 jn ∧ jn ≤ r.1.length ∧ DB w.heap.size wx p v' q (.slice a' n' c') r.2.1 r.2.2 r.2.1 r.2.2 pk fv wv fs ws ys N ∧ wx.ownsRow 0 31 1 (.slice al r.1.length cl) r.1.length vl ∧ Ows wx (vl.drop jn) (r.1.drop jn) ∧ Hid ((blks (vl.drop jn)).Nodup) ∧ Hid (∀ j ∈ blks (vl.drop jn), ¬ DF p v' q (.slice a' n' c') pk fv wv fs ws j ∧ w.heap.size ≤ j) ∧ Hid (∀ j, (Value.slice al r.1.length cl).ownBlock = some j → ¬ BF pk fv wv fs ws j) ∧ Below w.heap.size w wx) (fun jv _ => r.1.length - (intOf jv).toNat)
      case atStart => exact ⟨0, _, _, _, _, _, _, rfl, Nat.zero_le _, D7, hrow7, hO7, hNd, (fun j hj => ⟨hvd.out j hj, hvB j hj⟩ : ∀ j ∈ blks vl, _), hrb6, hBg⟩
      case round =>
        clear D7 hrow7 hO7 hBg hvd hNd hrb6
        obtain ⟨jn, fv, wv, fs, ws, ys, N, rfl, hjn, D, hrow, hO, HNd, HV, HR6, hB⟩ := hrel
        by_cases hjl : jn < r.1.length
        · have hjz : (jn : Int) < (r.1.length : Int) := by omega
          obtain ⟨lj, hlj⟩ : ∃ x, vl[jn]? = some x := ⟨_, List.getElem?_eq_getElem (by have := HVL.out; omega)⟩
          have ed : vl.drop jn = lj :: vl.drop (jn + 1) := by
            obtain ⟨h1, h2⟩ := List.getElem?_eq_some_iff.1 hlj
            rw [List.drop_eq_getElem_cons h1, h2]
          have ex : r.1.drop jn = r.1[jn] :: r.1.drop (jn + 1) := List.drop_eq_getElem_cons hjl
          rw [ed, ex] at hO
          obtain ⟨hOj, hOr⟩ := hO
          have hxj : (r.1[jn]).length ≤ 100 := HVE.out _ (List.getElem_mem hjl)
          generalize r.1[jn] = xj at hOj hxj
          obtain ⟨aj2, nj2, cj2, hl2⟩ := hOj.sl
          subst hl2
          have HV2 := HV.out
          rw [ed] at HV2
          have hNd2 := HNd.out
          rw [ed] at hNd2
          have hjd : ∀ j, (Value.slice aj2 nj2 cj2).ownBlock = some j → ¬ DF p v' q (.slice a' n' c') pk fv wv fs ws j ∧ w.heap.size ≤ j := fun j e => HV2 j (mem_blks.2 ⟨_, List.mem_cons_self .., e⟩)
          have hrd2 : ∀ j ∈ blks (vl.drop (jn + 1)), ¬ DF p v' q (.slice a' n' c') pk fv wv fs ws j ∧ w.heap.size ≤ j := fun j e => HV2 j (by obtain ⟨x, hx, hb⟩ := mem_blks.1 e; exact mem_blks.2 ⟨x, List.mem_cons_of_mem _ hx, hb⟩)
          have hnd3 : (blks (vl.drop (jn + 1))).Nodup := by
            unfold blks at hNd2 ⊢
            cases e : (Value.slice aj2 nj2 cj2).ownBlock with
            | none => rw [List.filterMap_cons_none e] at hNd2; exact hNd2
            | some kk => rw [List.filterMap_cons_some e] at hNd2; exact (List.nodup_cons.1 hNd2).2
          have hne3 : ∀ j ∈ blks (vl.drop (jn + 1)), ¬ (Value.slice aj2 nj2 cj2).ownBlock = some j := by
            intro j hj e
            unfold blks at hNd2 hj
            rw [List.filterMap_cons_some e] at hNd2
            exact (List.nodup_cons.1 hNd2).1 hj
          obtain ⟨ga, hga⟩ : ∃ g, al = some ⟨g, 0, none⟩ := by
            rcases hrow.2 with ⟨_, h0⟩ | ⟨g, cap, cur, hv, _⟩
            · omega
            · cases hv; exact ⟨g, rfl⟩
          subst hga
          have hcj : wr.cell? ⟨ga, jn, none⟩ = some (.slice aj2 nj2 cj2) := by
            have := hrow.cells (g := ga) rfl jn _ hlj
            rwa [add_flat, Nat.zero_add] at this
          have HED : Hid (vl.drop jn = .slice aj2 nj2 cj2 :: vl.drop (jn + 1)) := ed
          clear ed ex hNd2 HV2
          have hBs' := hB.size
          have HB := bookBytes_any pk N fv wv fs ws ys (.slice aj2 nj2 cj2) xj wr D.book hOj (fun j e s => (hjd j e).1 (.inr s)) (by omega)
          go_wp2_with (go_at_call 21; refine HB.mono ?_; clear HB; rintro e wy ⟨rr, fv', wv', fs', ws', ys', N', rfl, hb', hf', hk'⟩)
          have D' := D.took hBs' (fun j e => ⟨(hjd j e).2, fun s => (hjd j e).1 (.inl s)⟩) hb' hf' hk'
          have hrow' := own_keep hrow hk' (fun j e s => HR6.out j e s)
          have hO' := hOr.keep hk' (fun j e s => (hrd2 j e).1 (.inr s))
          have hsl := hk'.size
          have hltO := hOr.lt
          have hltr : ∀ j, (Value.slice (some ⟨ga, 0, none⟩) r.1.length cl).ownBlock = some j → j < wr.heap.size := fun j e => (hrow.lt j e).2
          have hB' := hB.trans (hk'.below hBs' (fun j s => D.nb j s))
          go_roundw
          case rel => exact ⟨jn + 1, fv', wv', fs', ws', ys', N', by go_num, by omega, D', hrow', hO', hnd3, (fun j hj => ⟨fun e => by
            rcases e with e | e
            · exact (hrd2 j hj).1 (.inl e)
            · rcases hf' j e with e | e | e
              · exact (hrd2 j hj).1 (.inr e)
              · exact hne3 j hj e
              · have := hltO j hj; omega, (hrd2 j hj).2⟩ : ∀ j ∈ blks (vl.drop (jn + 1)), _), (fun j e s => by
            rcases hf' j s with s | s | s
            · exact HR6.out j e s
            · exact row_apart1 hrow hOj j s e
            · have := hltr j e; omega : ∀ j, _ → _), hB'⟩
          case measure => simp [intOf]; omega
        · have hjz : ¬ (jn : Int) < (r.1.length : Int) := by omega
          have hBs' := hB.size
          have hL8 := LoanAt.new wr
          have D8 := D.below ((Below.refl _ _).alloc (Nat.le_refl _) (.cells #[.slice none 0 0, .slice none 0 0] 47))
          have hB8 := hB.alloc hBs' (.cells #[.slice none 0 0, .slice none 0 0] 47)
          have hd8 := D.lt
          clear hrow hO HNd HV HR6
          go_upto_region 20 with fail
          have kd := (Keep.refl (fun _ => False) (wr.alloc (.cells #[.slice none 0 0, .slice none 0 0] 47))).drew
          have D9 := D8.keep kd (fun _ _ h => h)
          have L9 := hL8.keep kd (fun _ _ h => h)
          have hB9 := hB8.drew
          have hs9 : (wr.alloc (.cells #[.slice none 0 0, .slice none 0 0] 47)).drew.heap.size = wr.heap.size + 1 := by simp
          clear D8 hL8 hB8 kd
          refine wp_region_px (fun w' => w'.cell? ⟨b0, off + k, none⟩ = some (.slice aj nj cj)) 17 (by kernel_rfl) (by kernel_rfl) ?_
          generalize (wr.alloc (.cells #[.slice none 0 0, .slice none 0 0] 47)).drew = WB at D9 L9 hB9 hs9 ⊢
          have hS9 : WB.cell? ⟨b0, off + k, none⟩ = some (.slice aj nj cj) := (hB9.cell (p := ⟨b0, off + k, none⟩) hbl).trans hcell
          refine px_rd 0 ?v0 (by kernel_rfl) (fun _ _ d _ _ h => by cases d <;> exact h) (by kernel_rfl) hS9 rfl rfl rfl (fun w' hS => ?h0) ?_
          case h0 => first | (go_simp; rfl) | go_simp
          simp only [List.setIfInBounds_toArray, List.set_cons_zero, List.set_cons_succ]
          refine px_rd 1 ?v1 (by kernel_rfl) (fun _ _ d _ _ h => by cases d <;> exact h) (by kernel_rfl) hS9 rfl rfl rfl (fun w' hS => ?h1) ?_
          case h1 => first | (go_simp; rfl) | go_simp
          simp only [List.setIfInBounds_toArray, List.set_cons_zero, List.set_cons_succ]
          refine px_rd 2 ?v2 (by kernel_rfl) (fun _ _ d _ _ h => by cases d <;> exact h) (by kernel_rfl) hS9 rfl rfl rfl (fun w' hS => ?h2) ?_
          case h2 => first | (go_simp; rfl) | go_simp
          simp only [List.setIfInBounds_toArray, List.set_cons_zero, List.set_cons_succ]
          refine px_rd 3 ?v3 (by kernel_rfl) (fun _ _ d _ _ h => by cases d <;> exact h) (by kernel_rfl) hS9 rfl rfl rfl (fun w' hS => ?h3) ?_
          case h3 => first | (go_simp; rfl) | go_simp
          simp only [List.setIfInBounds_toArray, List.set_cons_zero, List.set_cons_succ]
          refine px_rd 4 (.pointer (some ⟨b0, off + k, none⟩)) (by kernel_rfl) (fun _ _ d _ _ h => by cases d <;> exact h) (by kernel_rfl) hS9 rfl rfl rfl (fun w' hS => ?h4) ?_
          case h4 => first | (go_simp; rfl) | go_simp
          simp only [List.setIfInBounds_toArray, List.set_cons_zero, List.set_cons_succ]
          refine px_rd 5 (.slice aj nj cj) (by kernel_rfl) (fun _ _ d _ _ h => by cases d <;> exact h) (by kernel_rfl) hS9 rfl rfl rfl (fun w' hS => ?h5) ?_
          case h5 => have hq := hS; first | (go_simp; rfl) | go_simp
          simp only [List.setIfInBounds_toArray, List.set_cons_zero, List.set_cons_succ]
          refine px_rd 8 ?v8 (by kernel_rfl) (fun _ _ d _ _ h => by cases d <;> exact h) (by kernel_rfl) hS9 rfl rfl rfl (fun w' hS => ?h8) ?_
          case h8 => first | (go_simp; rfl) | go_simp
          simp only [List.setIfInBounds_toArray, List.set_cons_zero, List.set_cons_succ]
          refine px_rd 9 ?v9 (by kernel_rfl) (fun _ _ d _ _ h => by cases d <;> exact h) (by kernel_rfl) hS9 rfl rfl rfl (fun w' hS => ?h9) ?_
          case h9 => first | (go_simp; rfl) | go_simp
          simp only [List.setIfInBounds_toArray, List.set_cons_zero, List.set_cons_succ]
          refine px_rd 10 ?v10 (by kernel_rfl) (fun _ _ d _ _ h => by cases d <;> exact h) (by kernel_rfl) hS9 rfl rfl rfl (fun w' hS => ?h10) ?_
          case h10 => first | (go_simp; rfl) | go_simp
          simp only [List.setIfInBounds_toArray, List.set_cons_zero, List.set_cons_succ]
          refine px_rd 11 (.pointer (some ⟨b0, off + k, none⟩)) (by kernel_rfl) (fun _ _ d _ _ h => by cases d <;> exact h) (by kernel_rfl) hS9 rfl rfl rfl (fun w' hS => ?h11) ?_
          case h11 => first | (go_simp; rfl) | go_simp
          simp only [List.setIfInBounds_toArray, List.set_cons_zero, List.set_cons_succ]
          refine px_rd 12 (.slice aj nj cj) (by kernel_rfl) (fun _ _ d _ _ h => by cases d <;> exact h) (by kernel_rfl) hS9 rfl rfl rfl (fun w' hS => ?h12) ?_
          case h12 => have hq := hS; first | (go_simp; rfl) | go_simp
          simp only [List.setIfInBounds_toArray, List.set_cons_zero, List.set_cons_succ]
          refine px_one 6 (by kernel_rfl) (stepP_call 12 ?ac6 rfl rfl rfl ?rc6 ?_)
          case rc6 => first | (go_simp; rfl) | go_simp
          refine (fewR aj nj cj yy _ (hrd.carry (Nat.le_refl _) hB9)).mono ?_
          rintro e wa1 ⟨a1, n1, c1, rfl, hn1, hr1, hb1, _⟩
          rw [HY.out] at hr1
          have D10 := D9.below hb1
          have L10 := L9.keep (S := fun _ => False) (Keep.ofBelow hb1) (fun _ _ h => h)
          have hB10 := hB9.trans (hb1.mono hB9.size)
          have hs10 := hb1.size
          refine ⟨_, rfl, (hB10.cell (p := ⟨b0, off + k, none⟩) hbl).trans hcell, ?_⟩
          simp only [List.setIfInBounds_toArray, List.set_cons_zero, List.set_cons_succ]
          refine px_one 7 (by kernel_rfl) (stepP_call 19 ?ac7 rfl rfl rfl ?rc7 ?_)
          case rc7 => first | (go_simp; rfl) | go_simp
          refine (loanBytes_any _ _ _ _ _ _ a1 n1 c1 Y _ L10 hr1 (by omega) (by simp) (by simp)).mono ?_
          rintro e wb1 ⟨g1, cap1, lv1, mv1, ml1, rfl, L11, hr11, hg11, hf11, hk11⟩
          have hl11 : ∀ j, LF wr.heap.size lv1 mv1 ([] ++ [.slice (some ⟨g1, 0, none⟩) (n1 + 5) cap1]) ([] ++ [ml1]) j → wr.heap.size ≤ j := fun j e => (hf11 j e).elim (fun e => by rcases e with e | (e | e) | (e | e); exact Nat.le_of_eq e.symm; cases e; cases e; cases e; cases e) (fun e => by omega)
          have hd9 : ∀ j, LF wr.heap.size (.slice none 0 0) (.slice none 0 0) [] [] j → wr.heap.size ≤ j := fun j e => by rcases e with e | (e | e) | (e | e); exact Nat.le_of_eq e.symm; cases e; cases e; cases e; cases e
          have D11 := D10.keep hk11 (fun j e s => by have h1 := hd8 j e; have h2 := hd9 j s; omega)
          have hs11 := hk11.size
          have hB11 := hB10.trans (hk11.below (by omega) (fun j s => by have := hd9 j s; omega))
          refine ⟨_, rfl, (hB11.cell (p := ⟨b0, off + k, none⟩) hbl).trans hcell, ?_⟩
          simp only [List.setIfInBounds_toArray, List.set_cons_zero, List.set_cons_succ]
          refine px_one 13 (by kernel_rfl) (stepP_call 12 ?ac13 rfl rfl rfl ?rc13 ?_)
          case rc13 => first | (go_simp; rfl) | go_simp
          refine (fewR aj nj cj yy _ (hrd.carry (Nat.le_refl _) hB11)).mono ?_
          rintro e wc1 ⟨a2, n2, c2, rfl, hn2, hr2, hb2, _⟩
          rw [HY.out] at hr2
          have D12 := D11.below hb2
          have L12 := L11.keep (S := fun _ => False) (Keep.ofBelow hb2) (fun _ _ h => h)
          have hB12 := hB11.trans (hb2.mono hB11.size)
          have hs12 := hb2.size
          refine ⟨_, rfl, (hB12.cell (p := ⟨b0, off + k, none⟩) hbl).trans hcell, ?_⟩
          simp only [List.setIfInBounds_toArray, List.set_cons_zero, List.set_cons_succ]
          refine px_one 14 (by kernel_rfl) (stepP_call 19 ?ac14 rfl rfl rfl ?rc14 ?_)
          case rc14 => first | (go_simp; rfl) | go_simp
          refine (loanBytes_any _ _ _ _ _ _ a2 n2 c2 Y _ L12 hr2 (by omega) (by simp) (by simp)).mono ?_
          rintro e wd1 ⟨g2, cap2, lv2, mv2, ml2, rfl, L13, hr13, hg13, hf13, hk13⟩
          have D13 := D12.keep hk13 (fun j e s => by have h1 := hd8 j e; have h2 := hl11 j s; omega)
          have hs13 := hk13.size
          have hl13 : ∀ j, LF wr.heap.size lv2 mv2 (([] ++ [.slice (some ⟨g1, 0, none⟩) (n1 + 5) cap1]) ++ [.slice (some ⟨g2, 0, none⟩) (n2 + 5) cap2]) (([] ++ [ml1]) ++ [ml2]) j → wr.heap.size ≤ j := fun j e => (hf13 j e).elim (fun e => hl11 j e) (fun e => by omega)
          have hB13 := hB12.trans (hk13.below (by omega) (fun j s => by have := hl11 j s; omega))
          have hf1 := L13.two.f.ows.get (i := 0) rfl
          have hy1 := hr1.len
          have hf1' := hf1.own
          obtain ⟨_, _, hv1, hrf1⟩ := hf1.rd
          have hq1 : ((([] ++ [Y ++ marks5]) ++ [Y ++ marks5] : List (List Int)).getD 0 []) = Y ++ marks5 := rfl
          rw [hq1] at hv1 hrf1
          injection hv1 with hv1 hv2 hv3
          subst hv1 hv3
          have hra := hrf1.take (k := n1) (by rw [List.length_append]; omega)
          rw [List.take_left' hy1] at hra
          clear hv2 hf1' hf1 hrf1 hq1
          refine ⟨_, rfl, (hB13.cell (p := ⟨b0, off + k, none⟩) hbl).trans hcell, ?_⟩
          simp only [List.setIfInBounds_toArray, List.set_cons_zero, List.set_cons_succ]
          refine px_one 15 (by kernel_rfl) (stepP_call 17 ?ac15 rfl rfl rfl ?rc15 ?_)
          case rc15 => first | (go_simp; rfl) | go_simp
          refine (put_any _ n1 _ Y _ n2 _ Y _ hra hr13 (by omega) (by omega)).mono ?_
          rintro e we1 ⟨v5, rfl, ho5, hb5⟩
          have D14 := D13.below hb5
          have L14 := L13.keep (S := fun _ => False) (Keep.ofBelow hb5) (fun _ _ h => h)
          have hB14 := hB13.trans (hb5.mono hB13.size)
          have hs14 := hb5.size
          have hyb := hr1.bytes
          have hu5 : Ow we1 v5 (Y ++ frm Y) := Ow.ofFrom ho5 (hyb.append (frm_bd hyb))
          have hv5 : ∀ j, v5.ownBlock = some j → wd1.heap.size ≤ j := fun j e => (ho5.lt j e).1
          have hd13 := D13.lt
          have hl13l := L13.lt
          refine ⟨_, rfl, (hB14.cell (p := ⟨b0, off + k, none⟩) hbl).trans hcell, ?_⟩
          simp only [List.setIfInBounds_toArray, List.set_cons_zero, List.set_cons_succ]
          refine px_one 16 (by kernel_rfl) (stepP_call 21 ?ac16 rfl rfl rfl ?rc16 ?_)
          case rc16 => first | (go_simp; rfl) | go_simp
          refine (bookBytes_any pk N fv wv fs ws ys v5 (Y ++ frm Y) we1 D14.book hu5 (fun j e s => by have h1 := hv5 j e; have h2 := hd13 j (.inr s); omega) (by rw [List.length_append, frm_len]; omega)).mono ?_
          rintro e wz ⟨rr, fv', wv', fs', ws', ys', N', rfl, hb', hf', hk'⟩
          have hB14s := hB14.size
          have D15 := D14.took hB14s (fun j e => ⟨by have := hv5 j e; omega, fun s => by have h1 := hv5 j e; have h2 := hd13 j (.inl s); omega⟩) hb' hf' hk'
          have L15 := L14.keep hk' (fun j e s => by have h1 := hl13 j e; have h2 := hd8 j (.inr s); omega)
          have hB15 := hB14.trans (hk'.below hB14s (fun j s => D14.nb j s))
          refine ⟨_, rfl, (hB15.cell (p := ⟨b0, off + k, none⟩) hbl).trans hcell, ?_⟩
          simp only [List.setIfInBounds_toArray, List.set_cons_zero, List.set_cons_succ]
          refine px_nil (by kernel_rfl) ?_
          go_wp2
          go_roundw
          case rel =>
            refine ⟨k + 1, by go_num, by omega, by omega, ⟨_, _, _, _, _, _, _, _, _, _, _, _, _, _, _, _, rfl, D15, L15, fun j e f => ?_, fun j e => by have := hl13 j e; omega, by simp, fun x hx => ?_, by have := hrl.1; omega⟩, hB15⟩
            · have h1 := hl13 j e
              have h2 := hl13l j e
              rcases f with f | f
              · have := hd8 j (.inl f); omega
              · rcases hf' j f with f | f | f
                · have := hd8 j (.inr f); omega
                · have := hv5 j f; omega
                · omega
            · have hxe : x = Y ++ marks5 := by simpa using hx
              rw [hxe, List.length_append]
              have : marks5.length = 5 := rfl
              omega
          case measure => simp [intOf]; omega
    · by_cases hlt : k < n
      · have hlz : (k : Int) < (n : Int) := by omega
        have h3z : ¬ (k : Int) < 30 := by omega
        go_wp2_with (first
          | (go_at_call 20; refine (loanBack_any pn lv mv ls ms zs _ L (by omega) (fun x hx => by have := hzs x hx; omega)).mono ?_; rintro e wa ⟨rfl, hk1⟩; have D1 := D.keep hk1 (fun j e s => hap j s e))
          | (go_at_call 22; refine (bookClose_any pk N fv wv fs ws ys _ D1.book).mono ?_; rintro e wb ⟨rfl, hk2⟩))
        go_ret
        exact ⟨rfl, (hB.trans (hk1.below hBs (fun j s => hnl j s))).trans (hk2.below (by have := hk1.size; omega) (fun j s => D.nb j s))⟩
      · have hlz : ¬ (k : Int) < (n : Int) := by omega
        go_wp2_with (first
          | (go_at_call 20; refine (loanBack_any pn lv mv ls ms zs _ L (by omega) (fun x hx => by have := hzs x hx; omega)).mono ?_; rintro e wa ⟨rfl, hk1⟩; have D1 := D.keep hk1 (fun j e s => hap j s e))
          | (go_at_call 22; refine (bookClose_any pk N fv wv fs ws ys _ D1.book).mono ?_; rintro e wb ⟨rfl, hk2⟩))
        go_ret
        exact ⟨rfl, (hB.trans (hk1.below hBs (fun j s => hnl j s))).trans (hk2.below (by have := hk1.size; omega) (fun j s => D.nb j s))⟩

theorem own : ownKnob Try.prog.godebug = none := by kernel_rfl
theorem laidOut : laidOutB Try.prog = true := by kernel_rfl

set_option maxRecDepth 100000 in
theorem lifted (os : Os) (started : os.Started) (H : Type) (enc : TypeId × Value → H) :
    ReturnsInHanded {} Try.checked os 6 .any (Rows.frameOwnSpec.pre6 enc Try.prog Try.f6 Rows.frameOwnRow.domain false) (Rows.frameOwnSpec.post enc Try.prog Try.f6 false true false false) := by
  refine returnsInHanded_of_change (C := Try.checked) own started (by kernel_rfl) Try.func6
    (ChangeSpec.witness6 (enc := enc) (C := Try.checked) false ⟨#[], #[.slice none 0 0], []⟩ 8 (by kernel_rfl) (by kernel_rfl) (by kernel_rfl) (by kernel_rfl)) ?_
  intro W base args ds gs before hval0 hW hcnd _
  have hval : ∀ (j : Nat) t v, Try.f6.params[j]? = some t → args[j]? = some v → Value.okWide Try.prog W .any base t v := hval0
  have hW' := hW
  obtain ⟨p, q, hA0, hV, rfl, hfz, hnd⟩ := hW
  have hA : DataW.TrodAll enc Try.prog W 0 (fun _ => true) true Try.f6.params.toList args.toList ds p := hA0
  rw [Try.params6] at hA hval
  obtain ⟨v0, vs0, d0, ds0, p0, q0, hargs, rfl, rfl, h0, r0⟩ := trodAll_cons hA
  obtain ⟨rfl, rfl, rfl⟩ := trodAll_nil r0
  obtain rfl : args = #[v0] := by cases args; simp_all
  obtain ⟨rfl, rfl⟩ := trodVars_none hV
  obtain ⟨a0, len0, cap0, rfl⟩ := okWide_slice Try.underlying22 (hval 0 22 v0 rfl rfl)
  have k0 := h0
  have lt0 : ∀ x ∈ p0, x.block < W.heap.size := by obtain ⟨m, hm⟩ := k0; exact DataW.trod_lt m _ _ _ hm
  obtain ⟨z0, hR0⟩ : ∃ zs, RRd W a0 len0 zs := rrd_of_trod h0
  clear hA0 hval0
  refine (walk a0 len0 cap0 z0 W hR0).mono fun e W' ⟨he, bel⟩ => ?_
  subst he
  exact ⟨_, rfl, _, _, _, [], _, [], hW', trodAll_mk1 (shut_bool Try.underlying4 _), (trodAll_cons_mk (Below.trod laidOut (by kernel_rfl) (of_decide_eq_true (by kernel_rfl)) k0 bel lt0) trodAll_mk0), rfl, bel.frame _, fun h => by cases h⟩

end Go.Proofs.Ytmpoddgmkneffaa.frameOwn

namespace Go.Proofs.Ytmpoddgmkneffaa
theorem frameOwn_holds : Rows.FrameOwnSaid :=
  OpenClaim.holds_of_wide 6 Try.f6 rfl rfl rfl rfl rfl rfl rfl ⟨rfl, rfl, rfl, rfl, rfl⟩ rfl rfl rfl rfl rfl (by kernel_rfl) Try.func6 (by kernel_rfl)
    (of_decide_eq_true (by kernel_rfl)) (by unfold Func.isWrapper; first | (rw [if_pos (by decide +kernel)]; kernel_rfl) | (rw [if_neg (by decide +kernel)]; exact ⟨rfl, rfl⟩))
    (fun os started H enc _ => frameOwn.lifted os started H enc)
#print axioms frameOwn_holds
end Go.Proofs.Ytmpoddgmkneffaa
