/- Opening a log: the segments that are there. -/
import Derived.Test.YtikkieaokfailaaGreatDoorLgI
namespace Go.Proofs.YtikkieaokfailaaGreatDoor
open Go.RowKit Go.Joins

theorem decDigits_moreL {n : Nat} (h : ¬ n < 10) : Lib.decDigits n = Lib.decDigits (n / 10) ++ [UInt8.ofNat (48 + n % 10)] := by
  rw [Lib.decDigits, dif_neg h]
theorem dec_val : ∀ (k n : Nat), n ≤ k → (Lib.decDigits n).foldl (fun a c => a * 10 + (c.toNat - 48)) 0 = n
  | k, n, h => by
    by_cases h1 : n < 10
    · rw [Lib.decDigits_one h1]
      simp only [List.foldl_cons, List.foldl_nil, UInt8.toNat_ofNat']
      omega
    · match k, h with
      | 0, h => omega
      | k + 1, h =>
        rw [decDigits_moreL h1, List.foldl_append, dec_val k (n / 10) (by omega)]
        simp only [List.foldl_cons, List.foldl_nil, UInt8.toNat_ofNat']
        omega
theorem dec_inj {a b : Nat} (h : Lib.decDigits a = Lib.decDigits b) : a = b := by
  have h1 := dec_val a a (Nat.le_refl _)
  rw [h, dec_val b b (Nat.le_refl _)] at h1
  exact h1.symm
theorem segN_inj {g i j : Nat} (h : segN g i = segN g j) : i = j := by
  unfold segN at h
  injection h with h
  have h1 := congrArg Array.toList h
  simp only [List.append_assoc] at h1
  exact dec_inj (by simpa using h1)
theorem segN_size (g i : Nat) (hg : g < 18446744073709551616) (hi : i < 18446744073709551616) : (segN g i).size ≤ 45 := by
  have h1 := dig_len20 g hg
  have h2 := dig_len20 i hi
  show ([108, 111, 103, 45] ++ Lib.decDigits g ++ [45] ++ Lib.decDigits i).toArray.size ≤ 45
  simp
  omega

/-- The names of the segments from a + 1 to a + n. -/
def segs (g a n : Nat) : List Nm := (List.range n).map fun i => segN g (a + i + 1)
theorem segs_len (g a n : Nat) : (segs g a n).length = n := by simp [segs]
theorem segs_succ (g a n : Nat) : segs g a (n + 1) = segs g a n ++ [segN g (a + n + 1)] := by unfold segs; rw [List.range_succ, List.map_append]; rfl
theorem segs_cons (g a n : Nat) : segs g a (n + 1) = segN g (a + 1) :: segs g (a + 1) n := by
  unfold segs
  rw [List.range_succ_eq_map, List.map_cons, List.map_map]
  congr 1
  apply List.map_congr_left
  intro i _
  show segN g (a + (i + 1) + 1) = segN g (a + 1 + i + 1)
  congr 1
  omega
theorem mem_segs {g a n : Nat} {s : Nm} : s ∈ segs g a n ↔ ∃ i, i < n ∧ s = segN g (a + i + 1) := by
  unfold segs
  simp only [List.mem_map, List.mem_range]
  constructor
  · rintro ⟨i, h, rfl⟩; exact ⟨i, h, rfl⟩
  · rintro ⟨i, h, rfl⟩; exact ⟨i, h, rfl⟩
theorem segs_nodup (g a n : Nat) : (segs g a n).Nodup := by
  unfold segs
  refine List.pairwise_map.2 (List.nodup_range.imp ?_)
  intro x y hne e
  have := segN_inj e
  omega
/-- So many segments are there. -/
def IsCnt (ns : List Nm) (g i : Nat) : Prop := (∀ s ∈ segs g 0 i, s ∈ ns) ∧ segN g (i + 1) ∉ ns
theorem cnt_uniq {ns : List Nm} {g i j : Nat} (h1 : IsCnt ns g i) (h2 : IsCnt ns g j) : i = j := by
  rcases Nat.lt_trichotomy i j with h | h | h
  · exact absurd (h2.1 _ (mem_segs.2 ⟨i, h, by rw [Nat.zero_add]⟩)) h1.2
  · exact h
  · exact absurd (h1.1 _ (mem_segs.2 ⟨j, h, by rw [Nat.zero_add]⟩)) h2.2
theorem nodup_le {α : Type} : ∀ (l m : List α), l.Nodup → (∀ s ∈ l, s ∈ m) → l.length ≤ m.length
  | [], _, _, _ => Nat.zero_le _
  | x :: r, m, hn, h => by
    obtain ⟨p, q, rfl⟩ := List.append_of_mem (h x (List.mem_cons_self ..))
    have hn' := List.pairwise_cons.1 hn
    have := nodup_le r (p ++ q) hn'.2 (fun s hs => by
      have h1 := h s (List.mem_cons_of_mem _ hs)
      rcases List.mem_append.1 h1 with h1 | h1
      · exact List.mem_append_left _ h1
      · rcases List.mem_cons.1 h1 with h1 | h1
        · exact absurd h1.symm (hn'.1 s hs)
        · exact List.mem_append_right _ h1)
    simp at this ⊢
    omega
theorem cnt_le {ns : List Nm} {g i : Nat} (h : ∀ s ∈ segs g 0 i, s ∈ ns) : i ≤ ns.length := by
  have := nodup_le _ _ (segs_nodup g 0 i) h
  rw [segs_len] at this
  exact this
/-- Is it among them? -/
def inN (s : Nm) (l : List Nm) : Bool := l.any fun x => decide (x = s)
theorem inN_iff {s : Nm} {l : List Nm} : inN s l = true ↔ s ∈ l := by
  unfold inN
  simp
theorem inN_no {s : Nm} {l : List Nm} (h : s ∉ l) : inN s l = false := by
  cases e : inN s l with
  | false => rfl
  | true => exact absurd (inN_iff.1 e) h

/-- Block b is a set of just these names. -/
def SMap (w : World) (b : Nat) (l : List Nm) : Prop := ∃ D : DataW Unit, w.ownsMap Tryz.prog 9 unitElem b l.length D ∧ Maps.size D = l.length ∧ ∀ s, Maps.has D (kl s) = inN s l
theorem SMap.made (w : World) : SMap (w.alloc (.map #[] 0)) w.heap.size [] := ⟨_, World.ownsMap_made w _ _ _, rfl, fun _ => rfl⟩
theorem SMap.lt {w : World} {b : Nat} {l : List Nm} (h : SMap w b l) : b < w.heap.size := by obtain ⟨D, hD, _⟩ := h; exact hD.lt
theorem SMap.keep {S : Nat → Prop} {w w' : World} {b : Nat} {l : List Nm} (h : SMap w b l) (hk : Keep S w w') (hs : ¬ S b) : SMap w' b l := by
  obtain ⟨D, hD, h2⟩ := h
  have hlt := hD.lt
  obtain ⟨es, clock, hb, F, h3, h4⟩ := hD
  exact ⟨D, ⟨es, clock, (hk.block b hlt hs).trans hb, F, h3, h4⟩, h2⟩
theorem SMap.below {w w' : World} {b : Nat} {l : List Nm} (h : SMap w b l) (hb : Below w.heap.size w w') : SMap w' b l := h.keep (S := fun _ => False) (Keep.ofBelow hb) (fun h => h)
theorem SMap.len {w : World} {b : Nat} {l : List Nm} (h : SMap w b l) (ty : TypeId) : (Builtin.len_ #[166] ty #[.map (some b)]).run Tryz.prog w = .ok (.int .i64 (l.length : Int)) w := by
  obtain ⟨D, hD, h2, _⟩ := h
  rw [hD.len Tryz.underlying166 ty, h2]
theorem zeroU (w : World) : (zeroValue 168).run Tryz.prog w = .ok (.agg #[]) w := by kernel_rfl
theorem SMap.look {w : World} {b : Nat} {l : List Nm} (h : SMap w b l) (s : Nm) (hs : s.size ≤ maxLen) : (Instr.lookup 166 (.map (some b)) (.string s) true).run Tryz.prog w = .ok (.tuple #[.agg #[], .bool (inN s l)]) w := by
  obtain ⟨D, hD, _, h2⟩ := h
  obtain ⟨v, ps, hrun, hv⟩ := hD.look_ok keyed Tryz.underlying166 (zeroU w) unitElem_mk (kl_key s hs)
  rw [hrun, h2 s, (unitElem_inv hv).1]
theorem SMap.store {w : World} {b : Nat} {l : List Nm} (h : SMap w b l) (hn : l.length < 1000000) (s : Nm) (hs : s.size ≤ maxLen) (hno : s ∉ l) :
    ∃ w', (Instr.mapUpdate 166 (.map (some b)) (.string s) (.agg #[])).run Tryz.prog w = .ok () w' ∧ SMap w' b (l ++ [s]) ∧ Keep (fun k => k = b) w w' := by
  obtain ⟨D, hD, h1, h2⟩ := h
  obtain ⟨w', hrun, hown, hturn⟩ := hD.store keyed Tryz.underlying166 (by unfold maxLen; omega) (kl_key s hs) unitElem_mk
  refine ⟨w', hrun, ⟨_, by rw [List.length_append]; exact hown, ?_, fun u => ?_⟩, Keep.ofTurned hturn⟩
  · rw [Maps.size_put (hD.tidy keyed), h2 s, inN_no hno, h1, List.length_append]
    rfl
  · by_cases hu : u = s
    · subst hu
      rw [Maps.has_put_same hD.isMap (kl_is u) _]
      exact (inN_iff.2 (by simp)).symm
    · rw [Maps.has_put_other (kl_ne hu) _, h2 u]
      unfold inN
      rw [List.any_append]
      have hsu : decide (s = u) = false := decide_eq_false (fun e => hu e.symm)
      simp only [List.any_cons, List.any_nil, hsu, Bool.or_false]

theorem less_lt (a b : Nm) : Op.bytesLess a.toList b.toList = decide (ltN a b) := by
  rw [ByteArray.toList_eq, ByteArray.toList_eq, bytesLess_eq]
/-- How many names stand ahead of x. -/
def ahd : List Nm → Nm → Nat
  | [], _ => 0
  | s :: r, x => if ltN s x then ahd r x + 1 else 0
theorem ahd_le (ns : List Nm) (x : Nm) : ahd ns x ≤ ns.length := by
  induction ns with
  | nil => exact Nat.le_refl _
  | cons s r ih => unfold ahd; split <;> simp <;> omega
theorem ahd_lt (ns : List Nm) (x : Nm) : ∀ t, t < ahd ns x → ltN (ns.getD t x) x := by
  induction ns with
  | nil => intro t h; unfold ahd at h; omega
  | cons s r ih =>
    intro t h
    unfold ahd at h
    split at h
    · rename_i hs
      cases t with
      | zero => exact hs
      | succ t => exact ih t (by omega)
    · omega
theorem ahd_ge (ns : List Nm) (x : Nm) (hp : ns.Pairwise ltN) : ∀ t, ahd ns x ≤ t → ¬ ltN (ns.getD t x) x := by
  induction ns with
  | nil => intro t _ h; exact ltN_irrefl _ h
  | cons s r ih =>
    intro t h hl
    have hp' := List.pairwise_cons.1 hp
    unfold ahd at h
    split at h
    · cases t with
      | zero => omega
      | succ t => exact ih hp'.2 t (by omega) hl
    · rename_i hs
      cases t with
      | zero => exact hs hl
      | succ t =>
        have hl' : ltN (r.getD t x) x := hl
        by_cases ht : t < r.length
        · have hm : r.getD t x ∈ r := by rw [List.getD_eq_getElem?_getD, List.getElem?_eq_getElem ht]; exact List.getElem_mem ht
          exact hs (ltN_trans (hp'.1 _ hm) hl')
        · rw [List.getD_eq_getElem?_getD, List.getElem?_eq_none (by omega)] at hl'
          exact ltN_irrefl _ hl'
theorem ahd_mem (ns : List Nm) (x : Nm) (hp : ns.Pairwise ltN) : (ahd ns x < ns.length ∧ ns.getD (ahd ns x) x = x) ↔ x ∈ ns := by
  constructor
  · rintro ⟨h1, h2⟩
    rw [List.getD_eq_getElem?_getD, List.getElem?_eq_getElem h1] at h2
    have h3 : ns[ahd ns x] = x := h2
    have := List.getElem_mem h1
    rw [h3] at this
    exact this
  · intro h
    obtain ⟨t, ht, he⟩ := List.getElem_of_mem h
    have hge : ns.getD t x = x := by rw [List.getD_eq_getElem?_getD, List.getElem?_eq_getElem ht]; exact he
    have h1 : ¬ t < ahd ns x := fun h2 => by have := ahd_lt ns x t h2; rw [hge] at this; exact ltN_irrefl _ this
    rcases Nat.lt_or_ge (ahd ns x) t with h2 | h2
    · have h3 : ahd ns x < ns.length := by omega
      have h4 := ahd_ge ns x hp (ahd ns x) (Nat.le_refl _)
      have h5 : ltN (ns[ahd ns x]) (ns[t]) := List.pairwise_iff_getElem.1 hp _ _ h3 ht h2
      rw [he] at h5
      rw [List.getD_eq_getElem?_getD, List.getElem?_eq_getElem h3] at h4
      exact absurd h5 h4
    · have h3 : t = ahd ns x := by omega
      subst h3
      exact ⟨ht, hge⟩

theorem bs_any (v : Value) (ns : List Nm) (x : Nm) (B : Nat) (w : World) (ho : w.ownsRow B 9 1 v ns.length (nv ns)) (hp : ns.Pairwise ltN) (hN : ns.length ≤ 1000000) :
    Calls Tryz.prog 150 #[v, .string x] w fun e w' => ∃ I : Int, e = .returned (.tuple #[.int .i64 I, .bool (inN x ns)]) ∧ Below w.heap.size w w' := by
  rcases ho.2 with ⟨hv, h0⟩ | ⟨g, cap, cur, hv, _⟩
  · have hns : ns = [] := List.eq_nil_of_length_eq_zero h0
    rw [hv, hns]
    refine (Any2.slices_BinarySearch_string_empty Tryz.lays2n26 none 0 x w).mono ?_
    rintro e w' ⟨rfl, rfl⟩
    exact ⟨0, by simp [inN], Below.refl _ _⟩
  · rw [hv] at ho ⊢
    refine (Any2.slices_BinarySearch_string Tryz.lays2n26 g 0 ns.length cap (fun t => ns.getD t x) x w (by omega) (fun j hj => ?_)).mono ?_
    · have hix : (nv ns)[j]? = some (.string (ns.getD j x)) := by unfold nv; rw [List.getElem?_map, List.getD_eq_getElem?_getD, List.getElem?_eq_getElem hj]; rfl
      have hc := ho.cells (g := g) rfl j _ hix
      rw [add_flat] at hc
      exact hc
    · rintro e w' ⟨rfl, q, rfl⟩
      have hk : Lib.bsGo (fun t => Op.bytesLess (ns.getD t x).toList x.toList) ns.length 0 ns.length = ahd ns x :=
        Lib.bsGo_spec _ (ahd ns x) (fun t ht => by rw [less_lt]; exact decide_eq_true (ahd_lt ns x t ht)) (fun t ht => by rw [less_lt]; exact decide_eq_false (ahd_ge ns x hp t ht)) ns.length 0 ns.length (by omega) (Nat.zero_le _) (ahd_le ns x)
      rw [hk]
      refine ⟨((ahd ns x : Nat) : Int), ?_, ⟨rfl, rfl, rfl, Nat.le_refl _, fun _ _ => rfl⟩⟩
      have hm := ahd_mem ns x hp
      have e : decide (ahd ns x < ns.length ∧ ns.getD (ahd ns x) x = x) = inN x ns := by
        by_cases h : x ∈ ns
        · rw [decide_eq_true (hm.2 h), inN_iff.2 h]
        · rw [decide_eq_false (fun h2 => h (hm.1 h2)), inN_no h]
      rw [e]

set_option maxHeartbeats 2000000 in
theorem own_any (b off g : Nat) (hg : g < 18446744073709551616) (v : Value) (ns : List Nm) (B : Nat) (w : World) (hP : Pw w) (hc : w.cell? ⟨b, off, none⟩ = some (.int .u64 (g : Int))) (ho : w.ownsRow B 9 1 v ns.length (nv ns)) (hp : ns.Pairwise ltN) (hN : ns.length ≤ 1000) :
    Calls Tryz.prog 132 #[.pointer (some ⟨b, off, none⟩), v] w fun e w' => ∃ bm i, e = .returned (.map (some bm)) ∧ w.heap.size ≤ bm ∧ SMap w' bm (segs g 0 i) ∧ IsCnt ns g i ∧ i ≤ ns.length ∧ Below w.heap.size w w' := by
  obtain ⟨av, cv, rfl⟩ := own_sl ho
  have hmm : ∀ w : World, (Instr.makeMap 166 none).run Tryz.prog w = .ok (.map (some w.heap.size)) (w.alloc (.map #[] 0)) := fun _ => rfl
  obtain ⟨N, HN⟩ : ∃ N, Hid (ns.length = N) := ⟨_, rfl⟩
  have HO : Hid (w.ownsRow B 9 1 (.slice av ns.length cv) ns.length (nv ns)) := ho
  have HPr : Hid (ns.Pairwise ltN) := hp
  clear ho hp
  rw [HN.out] at hN ⊢
  have hbs := fun x w' (hb : Below w.heap.size w w') => bs_any (.slice av ns.length cv) ns x B w' (own_keep (S := fun _ => False) HO.out (Keep.ofBelow hb) (fun _ _ h => h)) HPr.out (by rw [HN.out]; omega)
  simp only [HN.out] at hbs
  have hsg := fun i (hi : i ≤ 9223372036854775807) w' (hb : Below w.heap.size w w') => segment_any b off g i hg hi w' (hP.below hb) ((hb.cell (World.block_lt_of_cell? _ _ hc)).trans hc)
  have hm0 := SMap.made w
  have hb0 : Below w.heap.size w (w.alloc (.map #[] 0)) := (Below.refl _ _).alloc (Nat.le_refl _) _
  go_enter Tryz.func132, Tryz.ntmps132
  go_upto_region 2 with fail
  go_loopg [6, 7, 8] (N + 1) (fun gk s6 s7 s8 wr => ∃ i : Nat, i + gk = N + 1 ∧ Hid (SMap wr w.heap.size (segs g 0 i)) ∧ Hid (∀ s ∈ segs g 0 i, s ∈ ns) ∧ Hid (Below w.heap.size w wr))
  case atStart => exact ⟨0, by omega, hm0, fun s hs => by simp [segs] at hs, hb0⟩
  case round =>
    clear hm0 hb0 hmm
    obtain ⟨i, hik, HM, HA, HB⟩ := hrel
    have hiN : i ≤ N := by rw [← HN.out]; exact cnt_le HA.out
    have hln := fun ty => HM.out.len ty
    rw [segs_len] at hln
    have hsg1 := hsg (i + 1) (by omega) wr HB.out
    have hi1 : ((i + 1 : Nat) : Int) = (i : Int) + 1 := by omega
    rw [hi1] at hsg1
    obtain ⟨s, Hs⟩ : ∃ s, Hid (segN g (i + 1) = s) := ⟨_, rfl⟩
    rw [Hs.out] at hsg1
    have hs45 : s.size ≤ maxLen := by rw [← Hs.out]; have := segN_size g (i + 1) hg (by omega); unfold maxLen; omega
    by_cases hin : s ∈ ns
    · have hinB := inN_iff.2 hin
      have Hin : Hid (s ∈ ns) := hin
      have hbs1 := fun w' hb => hbs s w' hb
      rw [hinB] at hbs1
      have hno : s ∉ segs g 0 i := fun h => by
        obtain ⟨j, hj, e⟩ := mem_segs.1 h
        rw [← Hs.out] at e
        have := segN_inj e
        omega
      clear hin hinB hbs
      go_upto_region 6 with (first
        | (go_at_call 103; refine hsg1.mono ?_; rintro e w1 ⟨rfl, hb1⟩)
        | (go_at_call 150; refine (hbs1 w1 (HB.out.trans (hb1.mono HB.out.size))).mono ?_; rintro e w2 ⟨I, rfl, hb2⟩))
      have hM2 := (HM.out.below hb1).below hb2
      obtain ⟨w3, hrun3, hM3, hk3⟩ := hM2.store (by rw [segs_len]; omega) s hs45 hno
      have hB2 := (HB.out.trans (hb1.mono HB.out.size)).trans (hb2.mono (Nat.le_trans HB.out.size hb1.size))
      have hB3 : Below w.heap.size w w3 := hB2.trans (hk3.low hB2.size (fun j e => by omega))
      clear hM2 hk3 hB2
      go_wp2
      go_roundg (gk - 1)
      case measure => omega
      case rel =>
        refine ⟨i + 1, by omega, ?_, ?_, hB3⟩
        · show SMap w3 w.heap.size (segs g 0 (i + 1))
          rw [segs_succ, Nat.zero_add, Hs.out]
          exact hM3
        · show ∀ x ∈ segs g 0 (i + 1), x ∈ ns
          rw [segs_succ, Nat.zero_add, Hs.out]
          intro x hx
          rcases List.mem_append.1 hx with h1 | h1
          · exact HA.out x h1
          · rw [List.mem_singleton.1 h1]; exact Hin.out
    · have hinB := inN_no hin
      have Hin : Hid (IsCnt ns g i) := ⟨HA.out, by rw [Hs.out]; exact hin⟩
      have hbs1 := fun w' hb => hbs s w' hb
      rw [hinB] at hbs1
      clear hin hinB hbs
      go_wp2_with (first
        | (go_at_call 103; refine hsg1.mono ?_; rintro e w1 ⟨rfl, hb1⟩)
        | (go_at_call 150; refine (hbs1 w1 (HB.out.trans (hb1.mono HB.out.size))).mono ?_; rintro e w2 ⟨I, rfl, hb2⟩))
      go_ret
      exact ⟨w.heap.size, i, rfl, Nat.le_refl _, (HM.out.below hb1).below hb2, Hin.out, hiN, (HB.out.trans (hb1.mono HB.out.size)).trans (hb2.mono (Nat.le_trans HB.out.size hb1.size))⟩

end Go.Proofs.YtikkieaokfailaaGreatDoor
