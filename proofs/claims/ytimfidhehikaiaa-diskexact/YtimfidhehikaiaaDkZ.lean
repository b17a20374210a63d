/- DiskExact: the law's walk. -/
import Derived.Test.YtimfidhehikaiaaDkZp
namespace Go.Proofs.Ytimfidhehikaiaa
open Go.RowKit Go.Joins

theorem and_one (x : Int) : bits .and .i64 x 1 = 0 ∨ bits .and .i64 x 1 = 1 := by
  have h1 : (BitVec.ofInt 64 1).toNat = 1 := by decide
  have h2 : bits .and .i64 x 1 = IntKind.i64.wrap (((BitVec.ofInt 64 x &&& BitVec.ofInt 64 1).toNat : Nat) : Int) := rfl
  rw [h2, BitVec.toNat_and, h1, Nat.and_one_is_mod]
  rcases Nat.mod_two_eq_zero_or_one (BitVec.ofInt 64 x).toNat with h | h
  · rw [h]; left; decide
  · rw [h]; right; decide

/-- Two disks, each beside the document's. -/
structure Two (W wr : World) (F G F2 G2 : Nat → Prop) (d rd d2 rd2 : Nat) (k k2 : Dk) (i : Nat) : Prop where
  a : Both wr F G d rd k
  b : Both wr F2 G2 d2 rd2 k2
  ap : ∀ j, (F j ∨ G j) → ¬ (F2 j ∨ G2 j)
  fw : ∀ j, F j → W.heap.size ≤ j
  gw : ∀ j, G j → W.heap.size ≤ j
  fw2 : ∀ j, F2 j → W.heap.size ≤ j
  gw2 : ∀ j, G2 j → W.heap.size ≤ j
  B : Below W.heap.size W wr
  st : k.steps ≤ i
  fl : k.fs.length ≤ i
  st2 : k2.steps ≤ i
  fl2 : k2.fs.length ≤ i
theorem Two.below {W wr w' : World} {F G F2 G2 : Nat → Prop} {d rd d2 rd2 : Nat} {k k2 : Dk} {i : Nat} (h : Two W wr F G F2 G2 d rd d2 rd2 k k2 i) (hb : Below wr.heap.size wr w') : Two W w' F G F2 G2 d rd d2 rd2 k k2 i :=
  ⟨h.a.below hb, h.b.below hb, h.ap, h.fw, h.gw, h.fw2, h.gw2, h.B.trans (hb.mono h.B.size), h.st, h.fl, h.st2, h.fl2⟩
theorem Two.leftOf {W wr w' : World} {F G F2 G2 F' G' : Nat → Prop} {d rd d2 rd2 : Nat} {k k2 k' : Dk} {i : Nat} (h : Two W wr F G F2 G2 d rd d2 rd2 k k2 i) (hg : Gr k k') (h1 : Both w' F' G' d rd k') (h2 : Keep (fun i => F i ∨ G i) wr w') (h3 : ∀ i, F' i → F i ∨ wr.heap.size ≤ i) (h4 : ∀ i, G' i → G i ∨ wr.heap.size ≤ i) : Two W w' F' G' F2 G2 d rd d2 rd2 k' k2 (i + 1) := by
  have hlt : ∀ j, (F2 j ∨ G2 j) → j < wr.heap.size := fun j hj => hj.elim (h.b.D.lt j) (h.b.R.lt j)
  refine ⟨h1, h.b.keep h2 (fun j hj hs => h.ap j hs (Or.inl hj)) (fun j hj hs => h.ap j hs (Or.inr hj)), fun j hj h0 => ?_, fun j hj => ?_, fun j hj => ?_, h.fw2, h.gw2, h.B.trans (h2.low h.B.size (fun j hj => hj.elim (h.fw j) (h.gw j))), ?_, ?_, ?_, ?_⟩
  · have := hlt j h0
    rcases hj with hj | hj
    · rcases h3 j hj with h5 | h5
      · exact h.ap j (Or.inl h5) h0
      · omega
    · rcases h4 j hj with h5 | h5
      · exact h.ap j (Or.inr h5) h0
      · omega
  · rcases h3 j hj with h5 | h5
    · exact h.fw j h5
    · have := h.B.size; omega
  · rcases h4 j hj with h5 | h5
    · exact h.gw j h5
    · have := h.B.size; omega
  · have := hg.1; have := h.st; omega
  · have := hg.2; have := h.fl; omega
  · exact Nat.le_succ_of_le h.st2
  · exact Nat.le_succ_of_le h.fl2
theorem Two.left {W wr w' : World} {F G F2 G2 : Nat → Prop} {d rd d2 rd2 : Nat} {k k2 k' : Dk} {i : Nat} (h : Two W wr F G F2 G2 d rd d2 rd2 k k2 i) (hg : Gr k k') (hp : Bp wr F G d rd k' w') : ∃ F' G', Two W w' F' G' F2 G2 d rd d2 rd2 k' k2 (i + 1) := by
  obtain ⟨F', G', h1, h2, h3, h4⟩ := hp
  exact ⟨F', G', h.leftOf hg h1 h2 h3 h4⟩
theorem Two.swap {W wr : World} {F G F2 G2 : Nat → Prop} {d rd d2 rd2 : Nat} {k k2 : Dk} {i : Nat} (h : Two W wr F G F2 G2 d rd d2 rd2 k k2 i) : Two W wr F2 G2 F G d2 rd2 d rd k2 k i :=
  ⟨h.b, h.a, fun j h1 h2 => h.ap j h2 h1, h.fw2, h.gw2, h.fw, h.gw, h.B, h.st2, h.fl2, h.st, h.fl⟩
theorem Two.right {W wr w' : World} {F G F2 G2 : Nat → Prop} {d rd d2 rd2 : Nat} {k k2 k' : Dk} {i : Nat} (h : Two W wr F G F2 G2 d rd d2 rd2 k k2 i) (hg : Gr k2 k') (hp : Bp wr F2 G2 d2 rd2 k' w') : ∃ F' G', Two W w' F G F' G' d rd d2 rd2 k k' (i + 1) := by
  obtain ⟨F', G', h1⟩ := h.swap.left hg hp
  exact ⟨F', G', h1.swap⟩

/-- New disks, one behind the other. -/
theorem two_start {W w1 w2 w3 w4 : World} {F G F2 G2 : Nat → Prop} {d rd d2 rd2 : Nat} {k k2 : Dk} (b1 : Below W.heap.size W w1) (b2 : Below w1.heap.size w1 w2) (b3 : Below w2.heap.size w2 w3) (b4 : Below w3.heap.size w3 w4)
    (D1 : DiskAt w1 F d k) (hF : ∀ i, F i → W.heap.size ≤ i) (R1 : RefAt w2 G rd k) (hG : ∀ i, G i → w1.heap.size ≤ i) (D2 : DiskAt w3 F2 d2 k2) (hF2 : ∀ i, F2 i → w2.heap.size ≤ i) (R2 : RefAt w4 G2 rd2 k2) (hG2 : ∀ i, G2 i → w3.heap.size ≤ i)
    (h1 : k.steps = 0) (h2 : k.fs = []) (h3 : k2.steps = 0) (h4 : k2.fs = []) : Two W w4 F G F2 G2 d rd d2 rd2 k k2 0 := by
  have s1 := b1.size
  have s2 := b2.size
  have s3 := b3.size
  have s4 := b4.size
  have c2 := b1.trans (b2.mono s1)
  have c3 := c2.trans (b3.mono c2.size)
  have c4 := c3.trans (b4.mono c3.size)
  have e3 := b2.trans (b3.mono s2)
  have e4 := e3.trans (b4.mono e3.size)
  have f4 := b3.trans (b4.mono s3)
  refine ⟨⟨D1.below e4, R1.below f4, fun i hf hg => ?_⟩, ⟨D2.below b4, R2, fun i hf hg => ?_⟩, fun j hj h0 => ?_, hF, fun j hj => ?_, fun j hj => ?_, fun j hj => ?_, c4, ?_, ?_, ?_, ?_⟩
  · have := D1.lt i hf; have := hG i hg; omega
  · have := D2.lt i hf; have := hG2 i hg; omega
  · have h5 : j < w2.heap.size := by
      rcases hj with hj | hj
      · have := D1.lt j hj; omega
      · exact R1.lt j hj
    rcases h0 with h0 | h0
    · have := hF2 j h0; omega
    · have := hG2 j h0; omega
  · have := hG j hj; omega
  · have := hF2 j hj; omega
  · have := hG2 j hj; omega
  · omega
  · rw [h2]; exact Nat.le_refl _
  · omega
  · rw [h4]; exact Nat.le_refl _

set_option maxRecDepth 100000 in
set_option maxHeartbeats 2000000 in
theorem exact_bad (room : Int) (a : Option Addr) (n c : Nat) (W : World) (h : room < 0 ∨ 16777216 < room) :
    Calls Try.prog 3 #[.int .i64 room, .slice a n c] W fun e w' => e = .returned (.bool true) ∧ Below W.heap.size W w' := by
  have h1 := new_bad room h W
  have h2 := refNew_bad room h W
  have h3 := wakes_any W
  clear h
  go_enter Try.func3, Try.ntmps3
  go_wp2_with (first
    | (go_at_call 7; refine h1.mono ?_; rintro e w1 ⟨rfl, rfl⟩)
    | (go_at_call 8; refine h2.mono ?_; rintro e w1 ⟨rfl, rfl⟩)
    | (go_at_call 9; refine h3.mono ?_; rintro e w2 ⟨rfl, hb2⟩))
  go_ret
  exact ⟨rfl, hb2⟩

set_option maxRecDepth 100000 in
set_option maxHeartbeats 6000000 in
theorem exact_ok (room : Nat) (hroom : room ≤ 16777216) (a : Option Addr) (n c : Nat) (W : World) (hR : ORd W a n c) :
    Calls Try.prog 3 #[.int .i64 (room : Int), .slice a n c] W fun e w' => e = .returned (.bool true) ∧ Below W.heap.size W w' := by
  have tk : True := trivial
  have tk2 : True := trivial
  have hn1 := new_ok room hroom
  have hr1 := refNew_ok room hroom
  have hn2 := new_ok 60 (by omega)
  have hr2 := refNew_ok 60 (by omega)
  have hcap := hR.cap
  have hmost := hR.most
  obtain ⟨k0, Hk0⟩ : ∃ k0, Hid (newK room = k0) := ⟨_, rfl⟩
  obtain ⟨k9, Hk9⟩ : ∃ k9, Hid (newK 60 = k9) := ⟨_, rfl⟩
  rw [Hk0.out] at hn1 hr1
  rw [Hk9.out] at hn2 hr2
  go_enter Try.func3, Try.ntmps3
  go_upto_region 7 with (first
    | (clear tk; go_at_call 7; refine (hn1 W).mono ?_; rintro e w1 ⟨d, rfl, ⟨F, hD1, hF⟩, b1⟩)
    | (clear tk2; go_at_call 8; refine (hr1 w1).mono ?_; rintro e w2 ⟨rd, rfl, ⟨G, hR1, hG⟩, b2⟩)
    | (go_at_call 7; refine (hn2 w2).mono ?_; rintro e w3 ⟨d2, rfl, ⟨F2, hD2, hF2⟩, b3⟩)
    | (go_at_call 8; refine (hr2 w3).mono ?_; rintro e w4 ⟨rd2, rfl, ⟨G2, hR2, hG2⟩, b4⟩))
  have HT := two_start b1 b2 b3 b4 hD1 hF hR1 hG hD2 hF2 hR2 hG2 (by rw [← Hk0.out]; rfl) (by rw [← Hk0.out]; rfl) (by rw [← Hk9.out]; rfl) (by rw [← Hk9.out]; rfl)
  clear b1 b2 b3 b4 hD1 hF hR1 hG hD2 hF2 hR2 hG2 hn1 hr1 hn2 hr2 Hk0 Hk9
  have hwk := wakes_any w4
  go_upto_region 9 with (first
    | (go_at_call 9; refine hwk.mono ?_; rintro e w5 ⟨rfl, b5⟩))
  have HT5 := HT.below b5
  clear HT b5 hwk
  go_wp2_with fail
  go_loopw [13] (fun s13 wr => ∃ (i : Nat) (k k2 : Dk) (F G F2 G2 : Nat → Prop), s13 = .int .i64 i ∧ i ≤ n ∧ i ≤ 200 ∧ Hid (Two W wr F G F2 G2 d rd d2 rd2 k k2 i)) (fun s13 _ => 200 - (intOf s13).toNat)
  case atStart => exact ⟨0, k0, k9, F, G, F2, G2, rfl, by omega, by omega, HT5⟩
  case round =>
    clear HT5
    obtain ⟨i, k, k2, F, G, F2, G2, rfl, hin, hi2, HA⟩ := hrel
    by_cases hlt : i < n ∧ i < 200
    · obtain ⟨hlt, hl2⟩ := hlt
      have hcl : (i : Int) < (n : Int) := by omega
      have hcl2 : (i : Int) < 200 := by omega
      have hi0 : (0 : Int) ≤ (i : Int) := by omega
      obtain ⟨b, off, rfl, hce⟩ := hR.flat (by omega)
      obtain ⟨On, Do, A, B, ar, nr, cr, xs, Nn, ak, nk, ck, zs, hop⟩ := hce i hlt
      clear hce
      have h0 := hop.below HA.out.B
      obtain ⟨q0, q1, q2, q3, q4, q5, q6, hAs, hBs, _, hNn, _⟩ := h0
      have hrd := hop.hR
      have hka := hop.hK
      have hst := HA.out.st
      have hfl := HA.out.fl
      have hst2 := HA.out.st2
      have hfl2 := HA.out.fl2
      rcases and_one On with hon | hon
      · have hpl := plays_any d rd F G k On Do A B ar nr cr xs Nn ak nk ck zs hAs hBs hNn.2 (by omega) (by omega) W wr HA.out.B hrd hka HA.out.fw HA.out.gw HA.out.a
        clear hrd hka hst hfl hst2 hfl2
        go_wp2_with (first
          | (go_at_call 10; refine hpl.mono ?_; rintro e w6 ⟨rfl, k', hgr, hbp⟩; obtain ⟨F', G', HT6⟩ := HA.out.left hgr hbp; have q06 := (hop.below HT6.B).c0))
        exact ⟨⟨i + 1, k', k2, F', G', F2, G2, by go_num, by omega, by omega, HT6⟩, by simp [intOf]; omega⟩
      · have hpl := plays_any d2 rd2 F2 G2 k2 On Do A B ar nr cr xs Nn ak nk ck zs hAs hBs hNn.2 (by omega) (by omega) W wr HA.out.B hrd hka HA.out.fw2 HA.out.gw2 HA.out.b
        clear hrd hka hst hfl hst2 hfl2
        go_wp2_with (first
          | (go_at_call 10; refine hpl.mono ?_; rintro e w6 ⟨rfl, k', hgr, hbp⟩; obtain ⟨F', G', HT6⟩ := HA.out.right hgr hbp; have q06 := (hop.below HT6.B).c0))
        exact ⟨⟨i + 1, k, k', F, G, F', G', by go_num, by omega, by omega, HT6⟩, by simp [intOf]; omega⟩
    · by_cases hin2 : i < n
      · obtain rfl : i = 200 := by omega
        have hcl : ((200 : Nat) : Int) < (n : Int) := by omega
        have hcl2 : ¬ ((200 : Nat) : Int) < 200 := by omega
        clear hlt
        have hstu := HA.out.st
        have hflu := HA.out.fl
        have hst2u := HA.out.st2
        have hfl2u := HA.out.fl2
        have hRl := refList_any rd G k (by omega) wr HA.out.a.R
        have hPs : (listK k).2.length ≤ 200 ∧ ∀ x ∈ (listK k).2, x.size ≤ 64 := by
          unfold listK
          split
          · exact ⟨Nat.zero_le _, fun x hx => by cases hx⟩
          · refine ⟨by rw [List.length_map]; omega, fun x hx => ?_⟩
            obtain ⟨y, hy, e⟩ := List.mem_map.1 hx
            rw [← e]
            exact isNm_size (HA.out.a.D.good.each y hy).1
        obtain ⟨P, HP⟩ : ∃ P, Hid (listK k = P) := ⟨_, rfl⟩
        rw [HP.out] at hRl hPs
        obtain ⟨en, ns⟩ := P
        dsimp only at hRl hPs
        obtain ⟨hNk0, hnm0⟩ := hPs
        have hnm : Hid (∀ x ∈ ns, x.size ≤ 64) := hnm0
        obtain ⟨N, HN⟩ : ∃ N, Hid (ns.length = N) := ⟨_, rfl⟩
        have hNk : N ≤ 200 := by rw [← HN.out]; exact hNk0
        rw [HN.out] at hRl
        clear hNk0 hnm0 HP
        go_upto_region 15 with (first
          | (go_at_call 11; refine hRl.mono ?_; rintro e w14 ⟨v14, rfl, o14, hb14⟩; obtain ⟨a14, c14, rfl, hn14⟩ := own_formN o14))
        have HT14 := HA.out.below hb14
        have hlow : ∀ g, (Value.slice a14 N c14).ownBlock = some g → ¬ F g ∧ ¬ G g := fun g hg => by
          have h1 := (o14.lt g hg).1
          refine ⟨fun h => ?_, fun h => ?_⟩
          · have := HA.out.a.D.lt g h; omega
          · have := HA.out.a.R.lt g h; omega
        have o14' : w14.ownsRow W.heap.size 9 1 (.slice a14 N c14) N (nv ns) := own_weak o14 HA.out.B.size
        clear o14 hb14 hRl HA
        go_wp2_with fail
        go_loopw [16] (fun s16 wr => ∃ (j : Nat) (k : Dk) (F G : Nat → Prop), s16 = .int .i64 j ∧ j ≤ N ∧ Hid (Two W wr F G F2 G2 d rd d2 rd2 k k2 (200 + j)) ∧ Hid (wr.ownsRow W.heap.size 9 1 (.slice a14 N c14) N (nv ns)) ∧ Hid (∀ g, (Value.slice a14 N c14).ownBlock = some g → ¬ F g ∧ ¬ G g)) (fun s16 _ => N - (intOf s16).toNat)
        case atStart => exact ⟨0, k, F, G, rfl, by omega, HT14, o14', hlow⟩
        case round =>
          clear HT14 o14' hlow hstu hflu hst2u hfl2u
          obtain ⟨j, k, F, G, rfl, hjN, HA, HOw, HLo⟩ := hrel
          have hst := HA.out.st
          have hfl := HA.out.fl
          have hst2 := HA.out.st2
          have hfl2 := HA.out.fl2
          by_cases hjlt : j < N
          · have hcj : (j : Int) < (N : Int) := by omega
            have hj0 : (0 : Int) ≤ (j : Int) := by omega
            obtain ⟨x, hx⟩ : ∃ x, ns[j]? = some x := ⟨_, List.getElem?_eq_getElem (by rw [HN.out]; exact hjlt)⟩
            have hnvj : (nv ns)[j]? = some (.string x) := by unfold nv; rw [List.getElem?_map, hx]; rfl
            obtain ⟨g, cg⟩ : ∃ g, a14 = some ⟨g, 0, none⟩ := by
              rcases HOw.out.2 with ⟨_, h0⟩ | ⟨g, cap, cur, h1, _⟩
              · omega
              · cases h1; exact ⟨g, rfl⟩
            subst cg
            have hc := HOw.out.cells (g := g) rfl j _ hnvj
            rw [add_flat, Nat.zero_add] at hc
            have hx64 := hnm.out x (List.mem_of_getElem? hx)
            have hpl := plays_any d rd F G k 0 6 x ⟨#[]⟩ none 0 0 [] 0 none 0 0 [] (by omega) (by decide) (by omega) (by omega) (by omega) W wr HA.out.B (rd_nilK W) (iar_nil W) HA.out.fw HA.out.gw HA.out.a
            clear hst hfl hst2 hfl2 hx hnvj
            go_wp2_with (first
              | (go_at_call 10; refine hpl.mono ?_; rintro e w6 ⟨rfl, k', hgr, F', G', hb6, hk6, hF6, hG6⟩))
            have hlt6 : ∀ q, (Value.slice (some ⟨g, 0, none⟩) N c14).ownBlock = some q → q < wr.heap.size := fun q hq => (HOw.out.lt q hq).2
            have HT6 : Two W w6 F' G' F2 G2 d rd d2 rd2 k' k2 (200 + (j + 1)) := HA.out.leftOf hgr hb6 hk6 hF6 hG6
            exact ⟨⟨j + 1, k', F', G', by go_num, by omega, HT6, own_keep HOw.out hk6 (fun q hq hs => hs.elim (HLo.out q hq).1 (HLo.out q hq).2), fun q hq => ⟨fun h => (hF6 q h).elim (HLo.out q hq).1 (fun h9 => by have := hlt6 q hq; omega), fun h => (hG6 q h).elim (HLo.out q hq).2 (fun h9 => by have := hlt6 q hq; omega)⟩⟩, by simp [intOf]; omega⟩
          · obtain rfl : j = N := by omega
            have hcj : ¬ (j : Int) < (j : Int) := by omega
            have tk : True := trivial
            have hpl := plays_any d rd F G k 0 7 ⟨#[]⟩ ⟨#[]⟩ none 0 0 [] 0 none 0 0 [] (by decide) (by decide) (by omega) (by omega) (by omega) W wr HA.out.B (rd_nilK W) (iar_nil W) HA.out.fw HA.out.gw HA.out.a
            go_wp2_with (first
              | (clear tk; go_at_call 10; refine hpl.mono ?_; rintro e w6 ⟨rfl, k', hgr, hbp⟩; obtain ⟨F', G', HT6⟩ := HA.out.left hgr hbp)
              | (go_at_call 10; refine (plays_any d2 rd2 F2 G2 k2 0 7 ⟨#[]⟩ ⟨#[]⟩ none 0 0 [] 0 none 0 0 [] (by decide) (by decide) (by omega) (by omega) (by omega) W w6 HT6.B (rd_nilK W) (iar_nil W) HT6.fw2 HT6.gw2 HT6.b).mono ?_; rintro e w7 ⟨rfl, k7, hgr7, hbp7⟩; obtain ⟨F8, G8, HT8⟩ := HT6.right hgr7 hbp7))
            go_ret
            exact ⟨rfl, HT8.B⟩
      · have hcl : ¬ (i : Int) < (n : Int) := by omega
        clear hlt
        have hstv := HA.out.st
        have hflv := HA.out.fl
        have hst2v := HA.out.st2
        have hfl2v := HA.out.fl2
        have hRl := refList_any rd G k (by omega) wr HA.out.a.R
        have hPs : (listK k).2.length ≤ 200 ∧ ∀ x ∈ (listK k).2, x.size ≤ 64 := by
          unfold listK
          split
          · exact ⟨Nat.zero_le _, fun x hx => by cases hx⟩
          · refine ⟨by rw [List.length_map]; omega, fun x hx => ?_⟩
            obtain ⟨y, hy, e⟩ := List.mem_map.1 hx
            rw [← e]
            exact isNm_size (HA.out.a.D.good.each y hy).1
        obtain ⟨P, HP⟩ : ∃ P, Hid (listK k = P) := ⟨_, rfl⟩
        rw [HP.out] at hRl hPs
        obtain ⟨en, ns⟩ := P
        dsimp only at hRl hPs
        obtain ⟨hNk0, hnm0⟩ := hPs
        have hnm : Hid (∀ x ∈ ns, x.size ≤ 64) := hnm0
        obtain ⟨N, HN⟩ : ∃ N, Hid (ns.length = N) := ⟨_, rfl⟩
        have hNk : N ≤ 200 := by rw [← HN.out]; exact hNk0
        rw [HN.out] at hRl
        clear hNk0 hnm0 HP
        go_upto_region 15 with (first
          | (go_at_call 11; refine hRl.mono ?_; rintro e w14 ⟨v14, rfl, o14, hb14⟩; obtain ⟨a14, c14, rfl, hn14⟩ := own_formN o14))
        have HT14 := HA.out.below hb14
        have hlow : ∀ g, (Value.slice a14 N c14).ownBlock = some g → ¬ F g ∧ ¬ G g := fun g hg => by
          have h1 := (o14.lt g hg).1
          refine ⟨fun h => ?_, fun h => ?_⟩
          · have := HA.out.a.D.lt g h; omega
          · have := HA.out.a.R.lt g h; omega
        have o14' : w14.ownsRow W.heap.size 9 1 (.slice a14 N c14) N (nv ns) := own_weak o14 HA.out.B.size
        clear o14 hb14 hRl HA
        go_wp2_with fail
        go_loopw [16] (fun s16 wr => ∃ (j : Nat) (k : Dk) (F G : Nat → Prop), s16 = .int .i64 j ∧ j ≤ N ∧ Hid (Two W wr F G F2 G2 d rd d2 rd2 k k2 (i + j)) ∧ Hid (wr.ownsRow W.heap.size 9 1 (.slice a14 N c14) N (nv ns)) ∧ Hid (∀ g, (Value.slice a14 N c14).ownBlock = some g → ¬ F g ∧ ¬ G g)) (fun s16 _ => N - (intOf s16).toNat)
        case atStart => exact ⟨0, k, F, G, rfl, by omega, HT14, o14', hlow⟩
        case round =>
          clear HT14 o14' hlow hstv hflv hst2v hfl2v
          obtain ⟨j, k, F, G, rfl, hjN, HA, HOw, HLo⟩ := hrel
          have hst := HA.out.st
          have hfl := HA.out.fl
          have hst2 := HA.out.st2
          have hfl2 := HA.out.fl2
          by_cases hjlt : j < N
          · have hcj : (j : Int) < (N : Int) := by omega
            have hj0 : (0 : Int) ≤ (j : Int) := by omega
            obtain ⟨x, hx⟩ : ∃ x, ns[j]? = some x := ⟨_, List.getElem?_eq_getElem (by rw [HN.out]; exact hjlt)⟩
            have hnvj : (nv ns)[j]? = some (.string x) := by unfold nv; rw [List.getElem?_map, hx]; rfl
            obtain ⟨g, cg⟩ : ∃ g, a14 = some ⟨g, 0, none⟩ := by
              rcases HOw.out.2 with ⟨_, h0⟩ | ⟨g, cap, cur, h1, _⟩
              · omega
              · cases h1; exact ⟨g, rfl⟩
            subst cg
            have hc := HOw.out.cells (g := g) rfl j _ hnvj
            rw [add_flat, Nat.zero_add] at hc
            have hx64 := hnm.out x (List.mem_of_getElem? hx)
            have hpl := plays_any d rd F G k 0 6 x ⟨#[]⟩ none 0 0 [] 0 none 0 0 [] (by omega) (by decide) (by omega) (by omega) (by omega) W wr HA.out.B (rd_nilK W) (iar_nil W) HA.out.fw HA.out.gw HA.out.a
            clear hst hfl hst2 hfl2 hx hnvj
            go_wp2_with (first
              | (go_at_call 10; refine hpl.mono ?_; rintro e w6 ⟨rfl, k', hgr, F', G', hb6, hk6, hF6, hG6⟩))
            have hlt6 : ∀ q, (Value.slice (some ⟨g, 0, none⟩) N c14).ownBlock = some q → q < wr.heap.size := fun q hq => (HOw.out.lt q hq).2
            have HT6 : Two W w6 F' G' F2 G2 d rd d2 rd2 k' k2 (i + (j + 1)) := HA.out.leftOf hgr hb6 hk6 hF6 hG6
            exact ⟨⟨j + 1, k', F', G', by go_num, by omega, HT6, own_keep HOw.out hk6 (fun q hq hs => hs.elim (HLo.out q hq).1 (HLo.out q hq).2), fun q hq => ⟨fun h => (hF6 q h).elim (HLo.out q hq).1 (fun h9 => by have := hlt6 q hq; omega), fun h => (hG6 q h).elim (HLo.out q hq).2 (fun h9 => by have := hlt6 q hq; omega)⟩⟩, by simp [intOf]; omega⟩
          · obtain rfl : j = N := by omega
            have hcj : ¬ (j : Int) < (j : Int) := by omega
            have tk : True := trivial
            have hpl := plays_any d rd F G k 0 7 ⟨#[]⟩ ⟨#[]⟩ none 0 0 [] 0 none 0 0 [] (by decide) (by decide) (by omega) (by omega) (by omega) W wr HA.out.B (rd_nilK W) (iar_nil W) HA.out.fw HA.out.gw HA.out.a
            go_wp2_with (first
              | (clear tk; go_at_call 10; refine hpl.mono ?_; rintro e w6 ⟨rfl, k', hgr, hbp⟩; obtain ⟨F', G', HT6⟩ := HA.out.left hgr hbp)
              | (go_at_call 10; refine (plays_any d2 rd2 F2 G2 k2 0 7 ⟨#[]⟩ ⟨#[]⟩ none 0 0 [] 0 none 0 0 [] (by decide) (by decide) (by omega) (by omega) (by omega) W w6 HT6.B (rd_nilK W) (iar_nil W) HT6.fw2 HT6.gw2 HT6.b).mono ?_; rintro e w7 ⟨rfl, k7, hgr7, hbp7⟩; obtain ⟨F8, G8, HT8⟩ := HT6.right hgr7 hbp7))
            go_ret
            exact ⟨rfl, HT8.B⟩

theorem diskExact_any (room : Int) (a : Option Addr) (n c : Nat) (W : World) (hR : ORd W a n c) (hb : -9223372036854775808 ≤ room ∧ room ≤ 9223372036854775807) :
    Calls Try.prog 3 #[.int .i64 room, .slice a n c] W fun e w' => e = .returned (.bool true) ∧ Below W.heap.size W w' := by
  by_cases h : room < 0 ∨ 16777216 < room
  · exact exact_bad room a n c W h
  · obtain ⟨r, rfl⟩ := Int.eq_ofNat_of_zero_le (a := room) (by omega)
    exact exact_ok r (by omega) a n c W hR

end Go.Proofs.Ytimfidhehikaiaa
