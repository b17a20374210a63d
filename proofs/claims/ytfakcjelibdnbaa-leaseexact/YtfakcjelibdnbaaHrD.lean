/- lease: the document's heap: Set, Due. -/
import Derived.Test.YtfakcjelibdnbaaHrC
namespace Go.Proofs.Ytfakcjelibdnbaa
open Go.RowKit Go.Joins

theorem sl_where {g a : Option Nat} {n c m d B : Nat} (h : (sl g n c).ownBlock = (sl a m d).ownBlock ∨ ∃ y, (sl g n c).ownBlock = some y ∧ B ≤ y) : ∀ x, g = some x → a = some x ∨ B ≤ x := fun x e => by
  have e3 : (sl g n c).ownBlock = some x := (sl_own g n c x).2 e
  rcases h with h | ⟨y, h, hy⟩
  · exact .inl ((sl_own a m d x).1 (h ▸ e3))
  · rw [h] at e3
    have : y = x := Option.some.inj e3
    exact .inr (this ▸ hy)
/-- What a call on the document's heap leaves. -/
def Rn (w w' : World) (G : Nat → Prop) (r : Nat) (L : Le) : Prop := ∃ G', RAt w' G' r L ∧ (∀ x, G' x → G x ∨ w.heap.size ≤ x) ∧ Keep G w w'

theorem rdrop_any {w : World} {G : Nat → Prop} {r : Nat} {L : Le} (h : RAt w G r L) (k : ByteArray) (hl : L.length ≤ 1000) (hk : Nk L) :
    Calls Try.prog 27 #[.pointer (some ⟨r, 0, none⟩), .string k] w fun e w' => e = .returned (.bool (lk L k).isSome) ∧ Rn w w' G r (drp L k) := by
  have h0 := h
  obtain ⟨ak, ck, ae, ce, h, hg⟩ := h
  by_cases hin : ∃ p ∈ L, p.1 = k
  · obtain ⟨p, hp, e⟩ := hin
    have el : lk L k = some p.2 := by rw [← e]; exact lk_mem hk hp
    rw [el]
    refine (rdrop_yes h k hl hk ⟨p, hp, e⟩).mono ?_
    rintro e w' ⟨rfl, ak', ck', ae', ce', hR, hK, h1, h2⟩
    refine ⟨rfl, fun x => x = r ∨ ak' = some x ∨ ae' = some x, ⟨ak', ck', ae', ce', hR, fun x => Iff.rfl⟩, fun x hx => ?_, hK.mono fun x e => (hg x).2 (.inl e)⟩
    rcases hx with e | e | e
    · exact .inl ((hg x).2 (.inl e))
    · exact .inr (h1 x e)
    · exact .inr (h2 x e)
  · have hno : ∀ p ∈ L, p.1 ≠ k := fun p hp e => hin ⟨p, hp, e⟩
    rw [lk_none hno, drp_none hno]
    refine (rdrop_no h k hl hno).mono ?_
    rintro e w' ⟨rfl, rfl⟩
    exact ⟨rfl, G, h0, fun x hx => .inl hx, Keep.refl _ _⟩

theorem rset_nan {w : World} {r : Nat} (k : ByteArray) {e : Nat} (he : Fl.nan e = true) : Calls Try.prog 26 #[.pointer (some ⟨r, 0, none⟩), .string k, .float .f64 e] w fun x w' => x = .returned (.int .i64 1) ∧ w' = w := by
  have hn := nan_neq e
  rw [he] at hn
  go_enter Try.func26, Try.ntmps26
  go_wp2
  go_ret
  exact ⟨rfl, rfl⟩

set_option maxHeartbeats 2000000 in
theorem rset_any {w : World} {G : Nat → Prop} {r : Nat} {L : Le} (h : RAt w G r L) (k : ByteArray) {e : Nat} (he : Fl.nan e = false) (hl : L.length ≤ 1000) (hk : Nk L) :
    Calls Try.prog 26 #[.pointer (some ⟨r, 0, none⟩), .string k, .float .f64 e] w fun x w' => x = .returned (.int .i64 0) ∧ Rn w w' G r (sets L k e) := by
  have hn := nan_neq e
  rw [he] at hn
  have cD := rdrop_any h k hl hk
  have hl1 : (drp L k).length ≤ 1000 := Nat.le_trans (List.length_filter_le _ _) hl
  clear he h
  go_enter Try.func26, Try.ntmps26
  go_upto_region 4 with (go_at_call 27; refine cD.mono ?_; clear cD; rintro x w1 ⟨rfl, hR⟩)
  obtain ⟨G1, ⟨ak, ck, ae, ce, h1, hg1⟩, hG1, hK1⟩ := hR
  have HM : Hid (sets L k e = drp L k ++ [(k, e)]) := rfl
  obtain ⟨M, hM⟩ : ∃ M, drp L k = M := ⟨_, rfl⟩
  rw [hM] at HM h1 hl1
  clear hM
  have c0 : w1.cell? ⟨r, 0, none⟩ = some (.slice (ak.map fun b => ⟨b, 0, none⟩) M.length ck) := h1.c0
  have hrk : ∀ k, ak = some k → k ≠ r := fun x e er => by
    obtain ⟨cur, hc⟩ := own_blk h1.kr e
    rw [er, h1.blk] at hc
    injection hc with hc
    injection hc with _ hc _
    exact absurd hc (by decide)
  have hre : ∀ k, ae = some k → k ≠ r := fun x e er => by
    obtain ⟨cur, hc⟩ := own_blk h1.er e
    rw [er, h1.blk] at hc
    injection hc with hc
    injection hc with _ hc _
    exact absurd hc (by decide)
  have hke : ∀ x, ak = some x → ae ≠ some x := fun x e e2 => by
    obtain ⟨cur, hc⟩ := own_blk h1.kr e
    obtain ⟨cur2, hc2⟩ := own_blk h1.er e2
    rw [hc] at hc2
    injection hc2 with hc2
    injection hc2 with _ hc2 _
    exact absurd hc2 (by decide)
  have hlt : ∀ x, (x = r ∨ ak = some x ∨ ae = some x) → x < w1.heap.size := fun x hx => RAt.lt ⟨ak, ck, ae, ce, h1, hg1⟩ ((hg1 x).2 hx)
  have H1 : Hid (RI w1 r M ak ck ae ce) := h1
  have HG : Hid ((∀ x, G1 x ↔ (x = r ∨ ak = some x ∨ ae = some x)) ∧ (∀ x, G1 x → G x ∨ w.heap.size ≤ x) ∧ Keep G w w1) := ⟨hg1, hG1, hK1⟩
  have HX : Hid ((∀ k, ak = some k → k ≠ r) ∧ (∀ k, ae = some k → k ≠ r) ∧ (∀ x, ak = some x → ae ≠ some x) ∧ (∀ x, (x = r ∨ ak = some x ∨ ae = some x) → x < w1.heap.size)) := ⟨hrk, hre, hke, hlt⟩
  clear h1 hg1 hG1 hK1 hrk hre hke hlt hk
  go_upto_region 5 with (at_builtin; refine wp_app1 28 9 (.string ⟨#[]⟩) 16 Try.underlying28 infoStr (by decide) rfl rfl _ _ rfl 0 (sl ak M.length ck) M.length _ rfl H1.out.kr (.string k) rfl rfl (by omega) (Nat.zero_le _) ?_; intro v2 w2 ho2 hk2 hw2 hv2; obtain ⟨g2, c2, rfl, _⟩ := own_sl ho2; have hb2 := (hk2.block r (HX.out.2.2.2 r (.inl rfl)) (fun e => HX.out.1 r ((sl_own _ _ _ r).1 e) rfl)).trans H1.out.blk; have q0 : w2.cell? ⟨r, 0, none⟩ = some (sl ak M.length ck) := (by rw [cell_of_block hb2]; rfl); have qf := unfrozen_of_block hb2 0; rw [show sl g2 (M.length + 1) c2 = Value.slice (g2.map fun b => ⟨b, 0, none⟩) (M.length + 1) c2 from rfl])
  have hg2 : ∀ x, g2 = some x → ak = some x ∨ w1.heap.size ≤ x := sl_where hw2
  have hrl : r < w1.heap.size := HX.out.2.2.2 r (.inl rfl)
  have hgr : ∀ x, g2 = some x → x ≠ r := fun x e => by
    rcases hg2 x e with h | h
    · exact HX.out.1 x h
    · omega
  have k23 : Keep (fun k => k = r) w2 (w2.setCell ⟨r, 0, none⟩ (sl g2 (M.length + 1) c2)) := Keep.setCell (S := fun k => k = r) (p := ⟨r, 0, none⟩) (Keep.refl _ _) rfl _
  have blk3 := block_setCell (i := 0) hb2 (sl g2 (M.length + 1) c2)
  have kr3 : (w2.setCell ⟨r, 0, none⟩ (sl g2 (M.length + 1) c2)).ownsRow 0 9 1 (sl g2 (M.length + 1) c2) (M.length + 1) (sc (ks M) ++ [Value.string k]) := own_keep ho2 k23 (fun x e => hgr x ((sl_own _ _ _ x).1 e))
  have er2 : w2.ownsRow 0 39 1 (sl ae M.length ce) M.length (fc (es M)) := own_keep H1.out.er hk2 (fun x e e2 => HX.out.2.2.1 x ((sl_own _ _ _ x).1 e2) ((sl_own _ _ _ x).1 e))
  have er3 : (w2.setCell ⟨r, 0, none⟩ (sl g2 (M.length + 1) c2)).ownsRow 0 39 1 (sl ae M.length ce) M.length (fc (es M)) := own_keep er2 k23 (fun x e => HX.out.2.1 x ((sl_own _ _ _ x).1 e))
  have hs23 : w1.heap.size ≤ (w2.setCell ⟨r, 0, none⟩ (sl g2 (M.length + 1) c2)).heap.size := by rw [sz_set]; exact hk2.size
  have K3 : Hid (Keep (fun x => x = r ∨ ak = some x) w1 (w2.setCell ⟨r, 0, none⟩ (sl g2 (M.length + 1) c2))) := (hk2.mono fun x e => .inr ((sl_own _ _ _ x).1 e)).trans (k23.mono fun x e => .inl e)
  show Code.wp _ _ _ _ (w2.setCell ⟨r, 0, none⟩ (sl g2 (M.length + 1) c2))
  obtain ⟨w3, hw3⟩ : ∃ w3, w2.setCell ⟨r, 0, none⟩ (sl g2 (M.length + 1) c2) = w3 := ⟨_, rfl⟩
  rw [hw3] at blk3 kr3 er3 hs23 K3 ⊢
  have blk3' : w3.heap[r]? = some (.cells #[sl g2 (M.length + 1) c2, sl ae M.length ce] 31 (0, 0)) := blk3
  have HB3 : Hid (w3.heap[r]? = some (.cells #[sl g2 (M.length + 1) c2, sl ae M.length ce] 31 (0, 0))) := blk3'
  have c1 : w3.cell? ⟨r, 1, none⟩ = some (.slice (ae.map fun b => ⟨b, 0, none⟩) M.length ce) := by rw [cell_of_block blk3']; rfl
  have HK3 : Hid (w3.ownsRow 0 9 1 (sl g2 (M.length + 1) c2) (M.length + 1) (sc (ks M) ++ [Value.string k])) := kr3
  have HE3 : Hid (w3.ownsRow 0 39 1 (sl ae M.length ce) M.length (fc (es M))) := er3
  have HG2 : Hid ((∀ x, g2 = some x → ak = some x ∨ w1.heap.size ≤ x) ∧ r < w3.heap.size ∧ w1.heap.size ≤ w3.heap.size) := ⟨hg2, by omega, hs23⟩
  clear hw3 blk3 blk3' kr3 er3 er2 k23 ho2 hk2 hw2 hv2 hb2 q0 qf c0 hg2 hgr hrl hs23
  go_wp2_with (at_builtin; refine wp_app1 29 39 (.float .f64 0) 8 Try.underlying29 infoF (by decide) rfl rfl _ _ rfl 0 (sl ae M.length ce) M.length _ rfl HE3.out (.float .f64 e) rfl rfl (by omega) (Nat.zero_le _) ?_; intro v4 w4 ho4 hk4 hw4 hv4; obtain ⟨g4, c4, rfl, _⟩ := own_sl ho4; have hb4 := (hk4.block r HG2.out.2.1 (fun e => HX.out.2.1 r ((sl_own _ _ _ r).1 e) rfl)).trans HB3.out; have q1 : w4.cell? ⟨r, 1, none⟩ = some (sl ae M.length ce) := (by rw [cell_of_block hb4]; rfl); have qf := unfrozen_of_block hb4 1; rw [show sl g4 (M.length + 1) c4 = Value.slice (g4.map fun b => ⟨b, 0, none⟩) (M.length + 1) c4 from rfl])
  go_ret
  have hg4 : ∀ x, g4 = some x → ae = some x ∨ w3.heap.size ≤ x := sl_where hw4
  have hgr4 : ∀ x, g4 = some x → x ≠ r := fun x e => by
    rcases hg4 x e with h | h
    · exact HX.out.2.1 x h
    · have := HG2.out.2.1; omega
  have k45 : Keep (fun k => k = r) w4 (w4.setCell ⟨r, 1, none⟩ (sl g4 (M.length + 1) c4)) := Keep.setCell (S := fun k => k = r) (p := ⟨r, 1, none⟩) (Keep.refl _ _) rfl _
  have blk5 := block_setCell (i := 1) hb4 (sl g4 (M.length + 1) c4)
  have er5 := own_keep ho4 k45 (fun x e => hgr4 x ((sl_own _ _ _ x).1 e))
  have kr4 := own_keep HK3.out hk4 (fun x e e2 => by
    have e3 := (sl_own _ _ _ x).1 e
    have e4 := (sl_own _ _ _ x).1 e2
    rcases HG2.out.1 x e3 with h | h
    · exact HX.out.2.2.1 x h e4
    · have := HX.out.2.2.2 x (.inr (.inr e4)); omega)
  have kr5 := own_keep kr4 k45 (fun x e er => by
    have e3 := (sl_own _ _ _ x).1 e
    rcases HG2.out.1 x e3 with h | h
    · exact HX.out.1 x h er
    · have := HX.out.2.2.2 r (.inl rfl); omega)
  have len' : (M ++ [(k, e)]).length = M.length + 1 := by simp
  have K5 : Keep (fun x => x = r ∨ ak = some x ∨ ae = some x) w1 (w4.setCell ⟨r, 1, none⟩ (sl g4 (M.length + 1) c4)) := ((K3.out.mono fun x h => h.elim .inl (fun h => .inr (.inl h))).trans (hk4.mono fun x e => .inr (.inr ((sl_own _ _ _ x).1 e)))).trans (k45.mono fun x e => .inl e)
  have hw1 := HG.out.2.2.size
  refine ⟨rfl, fun x => x = r ∨ g2 = some x ∨ g4 = some x, ⟨g2, c2, g4, c4, ⟨?_, ?_, ?_⟩, fun x => Iff.rfl⟩, fun x hx => ?_, ?_⟩
  · rw [HM.out, len']; exact blk5
  · rw [HM.out, len', show sc (ks (M ++ [(k, e)])) = sc (ks M) ++ [Value.string k] by simp [sc, ks]]; exact kr5
  · rw [HM.out, len', show fc (es (M ++ [(k, e)])) = fc (es M) ++ [Value.float .f64 e] by simp [fc, es]]; exact er5
  · rcases hx with e | e | e
    · exact HG.out.2.1 x ((HG.out.1 x).2 (.inl e))
    · rcases HG2.out.1 x e with h | h
      · exact HG.out.2.1 x ((HG.out.1 x).2 (.inr (.inl h)))
      · exact .inr (by omega)
    · rcases hg4 x e with h | h
      · exact HG.out.2.1 x ((HG.out.1 x).2 (.inr (.inr h)))
      · have := HG2.out.2.2
        exact .inr (by omega)
  · refine HG.out.2.2.andThen K5 (fun x hx h => ?_)
    rcases HG.out.2.1 x ((HG.out.1 x).2 h) with g | g
    · exact g
    · omega

theorem RAt.drewN {w : World} {G : Nat → Prop} {r : Nat} {L : Le} (h : RAt w G r L) (q : Nat) : RAt (w.drewN q) G r L := by
  obtain ⟨ak, ck, ae, ce, h, hg⟩ := h
  exact ⟨ak, ck, ae, ce, ⟨h.blk, h.kr, h.er⟩, hg⟩

set_option maxHeartbeats 4000000 in
theorem rdue_any {w : World} {G : Nat → Prop} {r : Nat} {L : Le} (h : RAt w G r L) (now : Nat) (hl : L.length ≤ 1000) (hk : Nk L) (hN : ∀ p ∈ L, Fl.nan p.2 = false) :
    Calls Try.prog 14 #[.pointer (some ⟨r, 0, none⟩), .float .f64 now] w fun e w' => ∃ v, e = .returned v ∧ w'.ownsRow w.heap.size 9 1 v (due L now).1.length (sc (due L now).1) ∧ Rn w w' G r (due L now).2 := by
  obtain ⟨R1, R2, hR⟩ : ∃ R1 R2, due L now = (R1, R2) := ⟨_, _, rfl⟩
  rw [hR]
  have H0 : Hid (RAt w G r L ∧ Nk L ∧ (∀ p ∈ L, Fl.nan p.2 = false)) := ⟨h, hk, hN⟩
  have HR : Hid (due L now = (R1, R2)) := hR
  clear h hR hk hN
  go_enter Try.func14, Try.ntmps14
  go_wp2
  go_loopg [5, 6] L.length (fun kx s5 _ wr => ∃ (K : List ByteArray) (L' : Le) (G' : Nat → Prop), L'.length ≤ kx ∧ Hid (K.length + L'.length ≤ 1000) ∧ Hid (wr.ownsRow w.heap.size 9 1 s5 K.length (sc K)) ∧ Hid (∀ x, s5.ownBlock = some x → ¬ G' x) ∧ Hid (RAt wr G' r L' ∧ Nk L' ∧ (∀ p ∈ L', Fl.nan p.2 = false)) ∧ Hid (∀ x, G' x → G x ∨ w.heap.size ≤ x) ∧ Hid (Keep G w wr) ∧ Hid (K ++ (due L' now).1 = R1 ∧ (due L' now).2 = R2))
  case atStart => exact ⟨[], L, G, Nat.le_refl _, (by show 0 + _ ≤ _; omega), ⟨rfl, .inl ⟨rfl, rfl⟩⟩, (fun x e => by cases e), H0, fun _ h => .inl h, Keep.refl _ _, by rw [HR.out]; exact ⟨rfl, rfl⟩⟩
  case round =>
    clear H0 HR
    obtain ⟨K, L', G', hkx, HKL, HO, HOut, HH, HGG, HK, HE⟩ := hrel
    obtain ⟨ak, ck, ae, ce, hRI, hgg⟩ := HH.out.1
    have cF := first_any hRI (by have := HKL.out; omega) HH.out.2.2
    have hec := own_cap hRI.er
    have hkc := own_cap hRI.kr
    unfold maxLen at hec hkc
    have HI : Hid (RI wr r L' ak ck ae ce) := hRI
    clear hRI
    go_upto_region 3 with (go_at_call 32; refine cF.mono ?_; clear cF; rintro e w1 ⟨⟨z, rfl, hz⟩, q, rfl⟩)
    have kq : Keep (fun _ => False) wr (wr.drewN q) := Keep.drewN_r q
    rcases hz with ⟨rfl, hz⟩ | ⟨i, hi, rfl, hfs⟩
    · have HX : Hid (due L' now = ([], L')) := due_none (by rw [hz]; rfl) now
      go_wp2
      go_ret
      refine ⟨_, rfl, ?_, G', ?_, HGG.out, HK.out.trans (Keep.drewN_r q)⟩
      · have := HE.out.1; rw [HX.out] at this; simp at this; rw [← this]; exact own_keep HO.out kq (fun _ _ h => h)
      · have := HE.out.2; rw [HX.out] at this; rw [← this]; exact HH.out.1.drewN q
    · have hi0 : ¬ ((i : Int) < 0) := by omega
      have hiz : (i : Int) < (L'.length : Int) := by omega
      obtain ⟨b2, rfl, hc2⟩ := HI.out.end' hi
      obtain ⟨b1, rfl, hc1⟩ := HI.out.key hi
      have c1 : (wr.drewN q).cell? ⟨r, 1, none⟩ = some (.slice (some ⟨b2, 0, none⟩) L'.length ce) := HI.out.c1
      have c0 : (wr.drewN q).cell? ⟨r, 0, none⟩ = some (.slice (some ⟨b1, 0, none⟩) L'.length ck) := HI.out.c0
      have d2 : (wr.drewN q).cell? ⟨b2, i, none⟩ = some (.float .f64 L'[i].2) := hc2
      have d1 : (wr.drewN q).cell? ⟨b1, i, none⟩ = some (.string L'[i].1) := hc1
      have hle := f64_le L'[i].2 now
      have HM := HH.out.1.drewN q
      have HOq : Hid ((wr.drewN q).ownsRow w.heap.size 9 1 u5 K.length (sc K)) := own_keep HO.out kq (fun _ _ h => h)
      have HKq : Hid (Keep G w (wr.drewN q)) := HK.out.trans (Keep.drewN_r q)
      cases hq : fle L'[i].2 now with
      | false =>
        rw [hq] at hle
        have HX : Hid (due L' now = ([], L')) := due_late hfs hq
        have HMq : Hid (RAt (wr.drewN q) G' r L') := HM
        clear hfs hq hc1 hc2 kq HM
        generalize L'[i].2 = x at d2 hle
        go_wp2
        go_ret
        refine ⟨_, rfl, ?_, G', ?_, HGG.out, HKq.out⟩
        · have := HE.out.1; rw [HX.out] at this; simp at this; rw [← this]; exact HOq.out
        · have := HE.out.2; rw [HX.out] at this; rw [← this]; exact HMq.out
      | true =>
        rw [hq] at hle
        have HX : Hid (due L' now = (L'[i].1 :: (due (drp L' L'[i].1) now).1, (due (drp L' L'[i].1) now).2)) := due_take HH.out.2.1 hfs hq
        have HD : Hid ((drp L' L'[i].1).length + 1 = L'.length) := drp_len HH.out.2.1 (List.getElem_mem hi)
        have HMq : Hid (RAt (wr.drewN q) G' r L') := HM
        clear hfs hq hc1 hc2 kq HM
        generalize L'[i].2 = x at d2 hle
        generalize L'[i].1 = kk at d1 HX HD
        have hKn : K.length ≤ 1000000 := by have := HKL.out; omega
        have hsz := HKq.out.size
        go_wp2_with (first
          | (at_builtin; refine wp_app1 28 9 (.string ⟨#[]⟩) 16 Try.underlying28 infoStr (by decide) rfl rfl _ _ rfl w.heap.size u5 K.length _ rfl HOq.out (.string kk) rfl rfl hKn hsz ?_; intro v4 w4 ho4 hk4 hw4 hv4; have hR4 : RAt w4 G' r L' := HMq.out.keep hk4 (fun x hx e => HOut.out x e hx); obtain ⟨ak4, ck4, ae4, ce4, hI4, hg4⟩ := hR4; have e0 : w4.cell? ⟨r, 0, none⟩ = some (.slice (some ⟨b1, 0, none⟩) L'.length ck) := (hk4.cell (p := ⟨r, 0, none⟩) c0 (fun e => HOut.out r e ((hgg r).2 (.inl rfl)))); have e1 : w4.cell? ⟨b1, i, none⟩ = some (.string kk) := (hk4.cell (p := ⟨b1, i, none⟩) d1 (fun e => HOut.out b1 e ((hgg b1).2 (.inr (.inl rfl))))); have cD := rdrop_any ⟨ak4, ck4, ae4, ce4, hI4, hg4⟩ kk (by have := HKL.out; omega) HH.out.2.1)
          | (go_at_call 27; refine cD.mono ?_; clear cD; rintro x w5 ⟨rfl, hR5⟩))
        obtain ⟨G5, hA5, hG5, hK5⟩ := hR5
        have hlt4 : ∀ x, v4.ownBlock = some x → ¬ G' x ∧ x < w4.heap.size := fun x e => by
          refine ⟨fun hG => ?_, (own_ltX ho4 e).2⟩
          rcases hw4 with h | ⟨y, h, hy⟩
          · exact HOut.out x (h ▸ e) hG
          · rw [h] at e
            have e3 : y = x := Option.some.inj e
            subst e3
            have := HMq.out.lt hG
            omega
        have e4 : sc K ++ [Value.string kk] = sc (K ++ [kk]) := by simp [sc]
        have l4 : K.length + 1 = (K ++ [kk]).length := by simp
        rw [e4, l4] at ho4
        go_roundg (drp L' kk).length
        case measure => have := HD.out; omega
        case rel =>
          refine ⟨K ++ [kk], drp L' kk, G5, Nat.le_refl _, ?_, own_keep ho4 hK5 (fun x e => (hlt4 x e).1), ?_, ⟨hA5, HH.out.2.1.drp kk, fun p hp => HH.out.2.2 p (drp_keys.1 hp).1⟩, ?_, ?_, ?_⟩
          · show (K ++ [kk]).length + _ ≤ 1000
            have h1 := HKL.out
            have h2 := HD.out
            rw [← l4]; omega
          · intro x e hG
            rcases hG5 x hG with g | g
            · exact (hlt4 x e).1 g
            · have := (hlt4 x e).2; omega
          · intro x hG
            rcases hG5 x hG with g | g
            · exact HGG.out x g
            · right
              have := hk4.size
              omega
          · refine (HKq.out.andThen hk4 (fun x hx e => ?_)).andThen hK5 (fun x hx hG => ?_)
            · have := (own_ltX HOq.out e).1; omega
            · rcases HGG.out x hG with g | g
              · exact g
              · omega
          · have h1 := HE.out
            rw [HX.out] at h1
            exact ⟨by rw [← h1.1]; simp, h1.2⟩

end Go.Proofs.Ytfakcjelibdnbaa
