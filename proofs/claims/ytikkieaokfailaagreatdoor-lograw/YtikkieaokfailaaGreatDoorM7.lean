/- Texts of one seat, one behind the other: LgJ, LgK, LgL, LgM. -/
import Derived.Test.YtikkieaokfailaaGreatDoorM6
namespace Go.Proofs.YtikkieaokfailaaGreatDoor
open Go.RowKit Go.Joins
theorem decDigits_moreL {n : Nat} (h : ¬ n < 10) : Lib.decDigits n = Lib.decDigits (n / 10) ++ [UInt8.ofNat (48 + n % 10)] := by
 rw [Lib.decDigits, dif_neg h]
theorem dec_val : ∀ (k n : Nat), n ≤ k → (Lib.decDigits n).foldl (fun a c => a * 10 + (c.toNat - 48)) 0 = n
 | k, n, h => by
  by_cases h1 : n < 10
  ·rw [Lib.decDigits_one h1]
   simp only [List.foldl_cons, List.foldl_nil, UInt8.toNat_ofNat']
   omega
  ·match k, h with
   | 0, h => omega
   | k + 1, h =>
    rw [decDigits_moreL h1, List.foldl_append, dec_val k (n / 10) (by omega)]
    simp only [List.foldl_cons, List.foldl_nil, UInt8.toNat_ofNat']
    omega
theorem dec_inj {a b : Nat} (h : Lib.decDigits a = Lib.decDigits b) : a = b := by
 have h1 := dec_val a a (Nat.le_refl _)
 rw [h, dec_val b b (Nat.le_refl _)] at h1
 exact h1.symm
theorem segN_inj {g i j : Nat} (h : segN g i = segN g j) : i = j := by
 unfold segN at h
 injection h with h
 have h1 := congrArg Array.toList h
 simp only [List.append_assoc] at h1
 exact dec_inj (by simpa using h1)
theorem segN_size (g i : Nat) (hg : g < 18446744073709551616) (hi : i < 18446744073709551616) : (segN g i).size ≤ 45 := by
 have h1 := dig_len20 g hg
 have h2 := dig_len20 i hi
 show ([108, 111, 103, 45] ++ Lib.decDigits g ++ [45] ++ Lib.decDigits i).toArray.size ≤ 45
 simp
 omega
def segs (g a n : Nat) : List Nm := (List.range n).map fun i => segN g (a + i + 1)
theorem segs_len (g a n : Nat) : (segs g a n).length = n := by simp [segs]
theorem segs_succ (g a n : Nat) : segs g a (n + 1) = segs g a n ++ [segN g (a + n + 1)] := by unfold segs; rw [List.range_succ, List.map_append]; rfl
theorem segs_cons (g a n : Nat) : segs g a (n + 1) = segN g (a + 1) :: segs g (a + 1) n := by
 unfold segs
 rw [List.range_succ_eq_map, List.map_cons, List.map_map]
 congr 1
 apply List.map_congr_left
 intro i _
 show segN g (a + (i + 1) + 1) = segN g (a + 1 + i + 1)
 congr 1
 omega
theorem mem_segs {g a n : Nat} {s : Nm} : s ∈ segs g a n ↔ ∃ i, i < n ∧ s = segN g (a + i + 1) := by
 unfold segs
 simp only [List.mem_map, List.mem_range]
 constructor
 ·rintro ⟨i, h, rfl⟩; exact ⟨i, h, rfl⟩
 ·rintro ⟨i, h, rfl⟩; exact ⟨i, h, rfl⟩
theorem segs_nodup (g a n : Nat) : (segs g a n).Nodup := by
 unfold segs
 refine List.pairwise_map.2 (List.nodup_range.imp ?_)
 intro x y hne e
 have := segN_inj e
 omega
def IsCnt (ns : List Nm) (g i : Nat) : Prop := (∀ s ∈ segs g 0 i, s ∈ ns) ∧ segN g (i + 1) ∉ ns
theorem nodup_le {α : Type} : ∀ (l m : List α), l.Nodup → (∀ s ∈ l, s ∈ m) → l.length ≤ m.length
 | [], _, _, _ => Nat.zero_le _
 | x :: r, m, hn, h => by
  obtain ⟨p, q, rfl⟩ := List.append_of_mem (h x (List.mem_cons_self ..))
  have hn' := List.pairwise_cons.1 hn
  have := nodup_le r (p ++ q) hn'.2 (fun s hs => by
   have h1 := h s (List.mem_cons_of_mem _ hs)
   rcases List.mem_append.1 h1 with h1 | h1
   ·exact List.mem_append_left _ h1
   ·rcases List.mem_cons.1 h1 with h1 | h1
    ·exact absurd h1.symm (hn'.1 s hs)
    ·exact List.mem_append_right _ h1)
  simp at this ⊢
  omega
theorem cnt_le {ns : List Nm} {g i : Nat} (h : ∀ s ∈ segs g 0 i, s ∈ ns) : i ≤ ns.length := by
 have := nodup_le _ _ (segs_nodup g 0 i) h
 rw [segs_len] at this
 exact this
def inN (s : Nm) (l : List Nm) : Bool := l.any fun x => decide (x = s)
theorem inN_iff {s : Nm} {l : List Nm} : inN s l = true ↔ s ∈ l := by
 unfold inN
 simp
theorem inN_no {s : Nm} {l : List Nm} (h : s ∉ l) : inN s l = false := by
 cases e : inN s l with
 | false => rfl
 | true => exact absurd (inN_iff.1 e) h
def SMap (w : World) (b : Nat) (l : List Nm) : Prop := ∃ D : DataW Unit, w.ownsMap Tryz.prog 9 unitElem b l.length D ∧ Maps.size D = l.length ∧ ∀ s, Maps.has D (kl s) = inN s l
theorem SMap.made (w : World) : SMap (w.alloc (.map #[] 0)) w.heap.size [] := ⟨_, World.ownsMap_made w _ _ _, rfl, fun _ => rfl⟩
theorem SMap.lt {w : World} {b : Nat} {l : List Nm} (h : SMap w b l) : b < w.heap.size := by obtain ⟨D, hD, _⟩ := h; exact hD.lt
theorem SMap.keep {S : Nat → Prop} {w w' : World} {b : Nat} {l : List Nm} (h : SMap w b l) (hk : Keep S w w') (hs : ¬ S b) : SMap w' b l := by
 obtain ⟨D, hD, h2⟩ := h
 have hlt := hD.lt
 obtain ⟨es, clock, hb, F, h3, h4⟩ := hD
 exact ⟨D, ⟨es, clock, (hk.block b hlt hs).trans hb, F, h3, h4⟩, h2⟩
theorem SMap.below {w w' : World} {b : Nat} {l : List Nm} (h : SMap w b l) (hb : Below w.heap.size w w') : SMap w' b l := h.keep (S := fun _ => False) (Keep.ofBelow hb) (fun h => h)
theorem SMap.len {w : World} {b : Nat} {l : List Nm} (h : SMap w b l) (ty : TypeId) : (Builtin.len_ #[166] ty #[.map (some b)]).run Tryz.prog w = .ok (.int .i64 (l.length : Int)) w := by
 obtain ⟨D, hD, h2, _⟩ := h
 rw [hD.len Tryz.underlying166 ty, h2]
theorem zeroU (w : World) : (zeroValue 168).run Tryz.prog w = .ok (.agg #[]) w := by kernel_rfl
theorem SMap.look {w : World} {b : Nat} {l : List Nm} (h : SMap w b l) (s : Nm) (hs : s.size ≤ maxLen) : (Instr.lookup 166 (.map (some b)) (.string s) true).run Tryz.prog w = .ok (.tuple #[.agg #[], .bool (inN s l)]) w := by
 obtain ⟨D, hD, _, h2⟩ := h
 obtain ⟨v, ps, hrun, hv⟩ := hD.look_ok keyed Tryz.underlying166 (zeroU w) unitElem_mk (kl_key s hs)
 rw [hrun, h2 s, (unitElem_inv hv).1]
theorem SMap.store {w : World} {b : Nat} {l : List Nm} (h : SMap w b l) (hn : l.length < 1000000) (s : Nm) (hs : s.size ≤ maxLen) (hno : s ∉ l) :
  ∃ w', (Instr.mapUpdate 166 (.map (some b)) (.string s) (.agg #[])).run Tryz.prog w = .ok () w' ∧ SMap w' b (l ++ [s]) ∧ Keep (fun k => k = b) w w' := by
 obtain ⟨D, hD, h1, h2⟩ := h
 obtain ⟨w', hrun, hown, hturn⟩ := hD.store keyed Tryz.underlying166 (by unfold maxLen; omega) (kl_key s hs) unitElem_mk
 refine ⟨w', hrun, ⟨_, by rw [List.length_append]; exact hown, ?_, fun u => ?_⟩, Keep.ofTurned hturn⟩
 ·rw [Maps.size_put (hD.tidy keyed), h2 s, inN_no hno, h1, List.length_append]
  rfl
 ·by_cases hu : u = s
  ·subst hu
   rw [Maps.has_put_same hD.isMap (kl_is u) _]
   exact (inN_iff.2 (by simp)).symm
  ·rw [Maps.has_put_other (kl_ne hu) _, h2 u]
   unfold inN
   rw [List.any_append]
   have hsu : decide (s = u) = false := decide_eq_false (fun e => hu e.symm)
   simp only [List.any_cons, List.any_nil, hsu, Bool.or_false]
theorem less_lt (a b : Nm) : Op.bytesLess a.toList b.toList = decide (ltN a b) := by
 rw [ByteArray.toList_eq, ByteArray.toList_eq, bytesLess_eq]
def ahd : List Nm → Nm → Nat
 | [], _ => 0
 | s :: r, x => if ltN s x then ahd r x + 1 else 0
theorem ahd_le (ns : List Nm) (x : Nm) : ahd ns x ≤ ns.length := by
 induction ns with
 | nil => exact Nat.le_refl _
 | cons s r ih => unfold ahd; split <;> simp <;> omega
theorem ahd_lt (ns : List Nm) (x : Nm) : ∀ t, t < ahd ns x → ltN (ns.getD t x) x := by
 induction ns with
 | nil => intro t h; unfold ahd at h; omega
 | cons s r ih =>
  intro t h
  unfold ahd at h
  split at h
  ·rename_i hs
   cases t with
   | zero => exact hs
   | succ t => exact ih t (by omega)
  ·omega
theorem ahd_ge (ns : List Nm) (x : Nm) (hp : ns.Pairwise ltN) : ∀ t, ahd ns x ≤ t → ¬ ltN (ns.getD t x) x := by
 induction ns with
 | nil => intro t _ h; exact ltN_irrefl _ h
 | cons s r ih =>
  intro t h hl
  have hp' := List.pairwise_cons.1 hp
  unfold ahd at h
  split at h
  ·cases t with
   | zero => omega
   | succ t => exact ih hp'.2 t (by omega) hl
  ·rename_i hs
   cases t with
   | zero => exact hs hl
   | succ t =>
    have hl' : ltN (r.getD t x) x := hl
    by_cases ht : t < r.length
    ·have hm : r.getD t x ∈ r := by rw [List.getD_eq_getElem?_getD, List.getElem?_eq_getElem ht]; exact List.getElem_mem ht
     exact hs (ltN_trans (hp'.1 _ hm) hl')
    ·rw [List.getD_eq_getElem?_getD, List.getElem?_eq_none (by omega)] at hl'
     exact ltN_irrefl _ hl'
theorem ahd_mem (ns : List Nm) (x : Nm) (hp : ns.Pairwise ltN) : (ahd ns x < ns.length ∧ ns.getD (ahd ns x) x = x) ↔ x ∈ ns := by
 constructor
 ·rintro ⟨h1, h2⟩
  rw [List.getD_eq_getElem?_getD, List.getElem?_eq_getElem h1] at h2
  have h3 : ns[ahd ns x] = x := h2
  have := List.getElem_mem h1
  rw [h3] at this
  exact this
 ·intro h
  obtain ⟨t, ht, he⟩ := List.getElem_of_mem h
  have hge : ns.getD t x = x := by rw [List.getD_eq_getElem?_getD, List.getElem?_eq_getElem ht]; exact he
  have h1 : ¬ t < ahd ns x := fun h2 => by have := ahd_lt ns x t h2; rw [hge] at this; exact ltN_irrefl _ this
  rcases Nat.lt_or_ge (ahd ns x) t with h2 | h2
  ·have h3 : ahd ns x < ns.length := by omega
   have h4 := ahd_ge ns x hp (ahd ns x) (Nat.le_refl _)
   have h5 : ltN (ns[ahd ns x]) (ns[t]) := List.pairwise_iff_getElem.1 hp _ _ h3 ht h2
   rw [he] at h5
   rw [List.getD_eq_getElem?_getD, List.getElem?_eq_getElem h3] at h4
   exact absurd h5 h4
  ·have h3 : t = ahd ns x := by omega
   subst h3
   exact ⟨ht, hge⟩
theorem bs_any (v : Value) (ns : List Nm) (x : Nm) (B : Nat) (w : World) (ho : w.ownsRow B 9 1 v ns.length (nv ns)) (hp : ns.Pairwise ltN) (hN : ns.length ≤ 1000000) :
  Calls Tryz.prog 150 #[v, .string x] w fun e w' => ∃ I : Int, e = .returned (.tuple #[.int .i64 I, .bool (inN x ns)]) ∧ Below w.heap.size w w' := by
 rcases ho.2 with ⟨hv, h0⟩ | ⟨g, cap, cur, hv, _⟩
 ·have hns : ns = [] := List.eq_nil_of_length_eq_zero h0
  rw [hv, hns]
  refine (Any2.slices_BinarySearch_string_empty Tryz.lays2n26 none 0 x w).mono ?_
  rintro e w' ⟨rfl, rfl⟩
  exact ⟨0, by simp [inN], Below.refl _ _⟩
 ·rw [hv] at ho ⊢
  refine (Any2.slices_BinarySearch_string Tryz.lays2n26 g 0 ns.length cap (fun t => ns.getD t x) x w (by omega) (fun j hj => ?_)).mono ?_
  ·have hix : (nv ns)[j]? = some (.string (ns.getD j x)) := by unfold nv; rw [List.getElem?_map, List.getD_eq_getElem?_getD, List.getElem?_eq_getElem hj]; rfl
   have hc := ho.cells (g := g) rfl j _ hix
   rw [add_flat] at hc
   exact hc
  ·rintro e w' ⟨rfl, q, rfl⟩
   have hk : Lib.bsGo (fun t => Op.bytesLess (ns.getD t x).toList x.toList) ns.length 0 ns.length = ahd ns x :=
    Lib.bsGo_spec _ (ahd ns x) (fun t ht => by rw [less_lt]; exact decide_eq_true (ahd_lt ns x t ht)) (fun t ht => by rw [less_lt]; exact decide_eq_false (ahd_ge ns x hp t ht)) ns.length 0 ns.length (by omega) (Nat.zero_le _) (ahd_le ns x)
   rw [hk]
   refine ⟨((ahd ns x : Nat) : Int), ?_, ⟨rfl, rfl, rfl, Nat.le_refl _, fun _ _ => rfl⟩⟩
   have hm := ahd_mem ns x hp
   have e : decide (ahd ns x < ns.length ∧ ns.getD (ahd ns x) x = x) = inN x ns := by
    by_cases h : x ∈ ns
    ·rw [decide_eq_true (hm.2 h), inN_iff.2 h]
    ·rw [decide_eq_false (fun h2 => h (hm.1 h2)), inN_no h]
   rw [e]
set_option maxHeartbeats 2000000 in
theorem own_any (b off g : Nat) (hg : g < 18446744073709551616) (v : Value) (ns : List Nm) (B : Nat) (w : World) (hP : Pw w) (hc : w.cell? ⟨b, off, none⟩ = some (.int .u64 (g : Int))) (ho : w.ownsRow B 9 1 v ns.length (nv ns)) (hp : ns.Pairwise ltN) (hN : ns.length ≤ 2500) :
  Calls Tryz.prog 132 #[.pointer (some ⟨b, off, none⟩), v] w fun e w' => ∃ bm i, e = .returned (.map (some bm)) ∧ w.heap.size ≤ bm ∧ SMap w' bm (segs g 0 i) ∧ IsCnt ns g i ∧ i ≤ ns.length ∧ Below w.heap.size w w' := by
 obtain ⟨av, cv, rfl⟩ := own_sl ho
 have hmm : ∀ w : World, (Instr.makeMap 166 none).run Tryz.prog w = .ok (.map (some w.heap.size)) (w.alloc (.map #[] 0)) := fun _ => rfl
 obtain ⟨N, HN⟩ : ∃ N, Hid (ns.length = N) := ⟨_, rfl⟩
 have HO : Hid (w.ownsRow B 9 1 (.slice av ns.length cv) ns.length (nv ns)) := ho
 have HPr : Hid (ns.Pairwise ltN) := hp
 clear ho hp
 rw [HN.out] at hN ⊢
 have hbs := fun x w' (hb : Below w.heap.size w w') => bs_any (.slice av ns.length cv) ns x B w' (own_keep (S := fun _ => False) HO.out (Keep.ofBelow hb) (fun _ _ h => h)) HPr.out (by rw [HN.out]; omega)
 simp only [HN.out] at hbs
 have hsg := fun i (hi : i ≤ 9223372036854775807) w' (hb : Below w.heap.size w w') => segment_any b off g i hg hi w' (hP.below hb) ((hb.cell (World.block_lt_of_cell? _ _ hc)).trans hc)
 have hm0 := SMap.made w
 have hb0 : Below w.heap.size w (w.alloc (.map #[] 0)) := (Below.refl _ _).alloc (Nat.le_refl _) _
 go_enter Tryz.func132, Tryz.ntmps132
 go_upto_region 2 with fail
 go_loopg [6, 7, 8] (N + 1) (fun gk s6 s7 s8 wr => ∃ i : Nat, i + gk = N + 1 ∧ Hid (SMap wr w.heap.size (segs g 0 i)) ∧ Hid (∀ s ∈ segs g 0 i, s ∈ ns) ∧ Hid (Below w.heap.size w wr))
 case atStart => exact ⟨0, by omega, hm0, fun s hs => by simp [segs] at hs, hb0⟩
 case round =>
  clear hm0 hb0 hmm
  obtain ⟨i, hik, HM, HA, HB⟩ := hrel
  have hiN : i ≤ N := by rw [← HN.out]; exact cnt_le HA.out
  have hln := fun ty => HM.out.len ty
  rw [segs_len] at hln
  have hsg1 := hsg (i + 1) (by omega) wr HB.out
  have hi1 : ((i + 1 : Nat) : Int) = (i : Int) + 1 := by omega
  rw [hi1] at hsg1
  obtain ⟨s, Hs⟩ : ∃ s, Hid (segN g (i + 1) = s) := ⟨_, rfl⟩
  rw [Hs.out] at hsg1
  have hs45 : s.size ≤ maxLen := by rw [← Hs.out]; have := segN_size g (i + 1) hg (by omega); unfold maxLen; omega
  by_cases hin : s ∈ ns
  ·have hinB := inN_iff.2 hin
   have Hin : Hid (s ∈ ns) := hin
   have hbs1 := fun w' hb => hbs s w' hb
   rw [hinB] at hbs1
   have hno : s ∉ segs g 0 i := fun h => by
    obtain ⟨j, hj, e⟩ := mem_segs.1 h
    rw [← Hs.out] at e
    have := segN_inj e
    omega
   clear hin hinB hbs
   go_upto_region 6 with (first
    | (go_at_call 103; refine hsg1.mono ?_; rintro e w1 ⟨rfl, hb1⟩)
    | (go_at_call 150; refine (hbs1 w1 (HB.out.trans (hb1.mono HB.out.size))).mono ?_; rintro e w2 ⟨I, rfl, hb2⟩))
   have hM2 := (HM.out.below hb1).below hb2
   obtain ⟨w3, hrun3, hM3, hk3⟩ := hM2.store (by rw [segs_len]; omega) s hs45 hno
   have hB2 := (HB.out.trans (hb1.mono HB.out.size)).trans (hb2.mono (Nat.le_trans HB.out.size hb1.size))
   have hB3 : Below w.heap.size w w3 := hB2.trans (hk3.low hB2.size (fun j e => by omega))
   clear hM2 hk3 hB2
   go_wp2
   go_roundg (gk - 1)
   case measure => omega
   case rel =>
    refine ⟨i + 1, by omega, ?_, ?_, hB3⟩
    ·show SMap w3 w.heap.size (segs g 0 (i + 1))
     rw [segs_succ, Nat.zero_add, Hs.out]
     exact hM3
    ·show ∀ x ∈ segs g 0 (i + 1), x ∈ ns
     rw [segs_succ, Nat.zero_add, Hs.out]
     intro x hx
     rcases List.mem_append.1 hx with h1 | h1
     ·exact HA.out x h1
     ·rw [List.mem_singleton.1 h1]; exact Hin.out
  ·have hinB := inN_no hin
   have Hin : Hid (IsCnt ns g i) := ⟨HA.out, by rw [Hs.out]; exact hin⟩
   have hbs1 := fun w' hb => hbs s w' hb
   rw [hinB] at hbs1
   clear hin hinB hbs
   go_wp2_with (first
    | (go_at_call 103; refine hsg1.mono ?_; rintro e w1 ⟨rfl, hb1⟩)
    | (go_at_call 150; refine (hbs1 w1 (HB.out.trans (hb1.mono HB.out.size))).mono ?_; rintro e w2 ⟨I, rfl, hb2⟩))
   go_ret
   exact ⟨w.heap.size, i, rfl, Nat.le_refl _, (HM.out.below hb1).below hb2, Hin.out, hiN, (HB.out.trans (hb1.mono HB.out.size)).trans (hb2.mono (Nat.le_trans HB.out.size hb1.size))⟩
end Go.Proofs.YtikkieaokfailaaGreatDoor

namespace Go.Proofs.YtikkieaokfailaaGreatDoor
open Go.RowKit Go.Joins
def cntF (ns : List Nm) (g : Nat) : Nat → Nat → Nat
 | 0, i => i
 | f + 1, i => if inN (segN g (i + 1)) ns then cntF ns g f (i + 1) else i
def cntN (ns : List Nm) (g : Nat) : Nat := cntF ns g ns.length 0
theorem cntF_is {ns : List Nm} {g i : Nat} (h : IsCnt ns g i) : ∀ f j, j ≤ i → i ≤ j + f → cntF ns g f j = i
 | 0, j, h1, h2 => by show j = i; omega
 | f + 1, j, h1, h2 => by
  unfold cntF
  by_cases hj : j < i
  ·rw [if_pos (inN_iff.2 (h.1 _ (mem_segs.2 ⟨j, hj, by rw [Nat.zero_add]⟩)))]
   exact cntF_is h f (j + 1) (by omega) (by omega)
  ·have e : j = i := by omega
   subst e
   rw [if_neg (by rw [inN_no h.2]; decide)]
theorem cntN_is {ns : List Nm} {g i : Nat} (h : IsCnt ns g i) : cntN ns g = i := cntF_is h _ 0 (Nat.zero_le _) (by have := cnt_le h.1; omega)
def remAll : List Nm → Bool → Dk → Nat × Bool × Dk
 | [], dn, k => (0, dn, k)
 | s :: r, dn, k => if (stp dn k (removeK k s)).1 ≠ 0 then stp dn k (removeK k s) else remAll r (stp dn k (removeK k s)).2.1 (stp dn k (removeK k s)).2.2
theorem remAll_no {s : Nm} {r : List Nm} {dn dn' : Bool} {k k' : Dk} {en : Nat} (h : stp dn k (removeK k s) = (en, dn', k')) (h0 : en ≠ 0) : remAll (s :: r) dn k = (en, dn', k') := by
 unfold remAll; rw [h]; exact if_pos h0
theorem remAll_ok {s : Nm} {r : List Nm} {dn dn' : Bool} {k k' : Dk} (h : stp dn k (removeK k s) = (0, dn', k')) : remAll (s :: r) dn k = remAll r dn' k' := by
 show (if (stp dn k (removeK k s)).1 ≠ 0 then _ else _) = _
 rw [h]; exact if_neg (by simp)
theorem remove_gr (k : Dk) (s : Nm) : (removeK k s).2.steps ≤ k.steps + 1 ∧ (removeK k s).2.fs.length ≤ k.fs.length := by
 unfold removeK stepK
 have h1 := pass_steps k
 have h2 := pass_fs k
 split
 ·exact ⟨Nat.le_succ _, Nat.le_refl _⟩
 ·split
  ·exact ⟨Nat.le_succ _, Nat.le_refl _⟩
  ·split
   ·exact ⟨Nat.le_succ _, Nat.le_refl _⟩
   ·split
    ·exact ⟨Nat.le_succ _, Nat.le_refl _⟩
    ·split
     ·exact ⟨h1, by rw [h2]; exact Nat.le_refl _⟩
     ·refine ⟨h1, ?_⟩
      show (dropL _ _).length ≤ _
      rw [← h2]
      exact len_drop _ _
theorem stpR_gr (dn : Bool) (k : Dk) (s : Nm) : (stp dn k (removeK k s)).2.2.steps ≤ k.steps + 1 ∧ (stp dn k (removeK k s)).2.2.fs.length ≤ k.fs.length := by
 have := remove_gr k s
 unfold stp
 cases dn
 ·exact this
 ·exact ⟨Nat.le_succ _, Nat.le_refl _⟩
theorem remAll_gr : ∀ (l : List Nm) (dn : Bool) (k : Dk), (remAll l dn k).2.2.steps ≤ k.steps + l.length ∧ (remAll l dn k).2.2.fs.length ≤ k.fs.length
 | [], _, _ => ⟨Nat.le_refl _, Nat.le_refl _⟩
 | s :: r, dn, k => by
  obtain ⟨h1, h2⟩ := stpR_gr dn k s
  unfold remAll
  split
  ·exact ⟨by simp; omega, h2⟩
  ·obtain ⟨h3, h4⟩ := remAll_gr r (stp dn k (removeK k s)).2.1 (stp dn k (removeK k s)).2.2
   exact ⟨by simp; omega, by omega⟩
def left (g n : Nat) (s : Nm) : Bool := !inN s (segs g 0 n) && isOf s
def cleanL (c : Ch) (dn : Bool) (k : Dk) : Nat × Ch × Bool × Dk :=
 if (listK k).1 ≠ 0 then ((listK k).1, c, dn, k) else
 ((remAll ((listK k).2.filter (left c.g (cntN (listK k).2 c.g))) dn k).1, { c with cnt := cntN (listK k).2 c.g }, (remAll ((listK k).2.filter (left c.g (cntN (listK k).2 c.g))) dn k).2)
theorem rise_pair {l : Fls} (h : Rise l) : (l.map Prod.fst).Pairwise ltN := by
 induction l with
 | nil => exact List.Pairwise.nil
 | cons p r ih =>
  obtain ⟨n, f⟩ := p
  refine List.pairwise_cons.2 ⟨fun x hx => ?_, ih h.2⟩
  obtain ⟨y, hy, rfl⟩ := List.mem_map.1 hx
  exact h.1 y hy
set_option maxHeartbeats 4000000 in
set_option maxRecDepth 100000 in
theorem clean_any (w : World) (F : Nat → Prop) (lb d most : Nat) (v : Value) (c : Ch) (dn : Bool) (k : Dk) (h : LD w F lb d most v c dn k) (hP : Pf w F lb) (hg : c.g < 18446744073709551616) (hfl : k.fs.length ≤ 2500) (hst : k.steps < 900000) :
  Calls Tryz.prog 99 #[.pointer (some ⟨lb, 0, none⟩)] w fun e w' => Gs (cleanL c dn k).1 e ∧ Lp w F lb d most v (cleanL c dn k).2.1 (cleanL c dn k).2.2.1 (cleanL c dn k).2.2.2 w' := by
 have q0 := h.c0
 have hls := list_any d F k (by omega) w h.D
 have hprop : ((listK k).2.Pairwise ltN ∧ (listK k).2.length ≤ 2500) ∧ ∀ s ∈ (listK k).2, s.size ≤ 64 := by
  unfold listK
  split
  ·exact ⟨⟨List.Pairwise.nil, Nat.zero_le _⟩, fun s hs => by cases hs⟩
  ·refine ⟨⟨rise_pair h.D.good.rise, by rw [List.length_map]; exact hfl⟩, fun s hs => ?_⟩
   obtain ⟨y, hy, rfl⟩ := List.mem_map.1 hs
   exact isNm_size (h.D.good.each y hy).1
 unfold cleanL
 obtain ⟨P, HP⟩ : ∃ P, Hid (listK k = P) := ⟨_, rfl⟩
 rw [HP.out] at hls hprop ⊢
 obtain ⟨en, ns⟩ := P
 dsimp only at hls hprop ⊢
 obtain ⟨⟨hpw, hnl⟩, hsz⟩ := hprop
 obtain ⟨N, HN⟩ : ∃ N, Hid (ns.length = N) := ⟨_, rfl⟩
 rw [HN.out] at hls hnl
 by_cases h0 : en = 0
 ·subst h0
  rw [if_neg (by simp)]
  obtain ⟨i0, Hi0⟩ : ∃ i0, Hid (cntN ns c.g = i0) := ⟨_, rfl⟩
  rw [Hi0.out]
  obtain ⟨R, HR⟩ : ∃ R, Hid (remAll (ns.filter (left c.g i0)) dn k = R) := ⟨_, rfl⟩
  rw [HR.out]
  obtain ⟨eR, dnR, kR⟩ := R
  dsimp only
  have HPW : Hid (ns.Pairwise ltN) := hpw
  have HSZ : Hid (∀ s ∈ ns, s.size ≤ 64) := hsz
  clear hpw hsz
  go_enter Tryz.func99, Tryz.ntmps99
  go_upto_region 2 with (first
   | (go_at_call 37; refine hls.mono ?_; rintro e w1 ⟨v1, rfl, o1, hb1⟩; obtain ⟨a1, c1, rfl, hn1⟩ := own_formN o1)
   | (go_at_call 129; refine (sask_ok _ _).mono ?_; rintro e w5 ⟨rfl, h5⟩; replace h5 := h5.symm; subst h5))
  have h1 := h.below hb1
  have hP1 := hP.below hb1
  have hown := own_any lb 3 c.g hg (.slice a1 N c1) ns w.heap.size w1 hP1.pw h1.c3 (by rw [HN.out]; exact o1) HPW.out (by rw [HN.out]; exact hnl)
  go_upto_region 3 with (first
   | (go_at_call 132; refine hown.mono ?_; rintro e w2 ⟨bm, i, rfl, hbm, hM2, hct, hile, hb2⟩))
  obtain rfl : i = i0 := by rw [← Hi0.out]; exact (cntN_is hct).symm
  have h2 := h1.below hb2
  have hln := fun ty => hM2.len ty
  rw [segs_len] at hln
  have p4 := h2.c4
  have z4 := h2.fz 4
  have o2 := own_keep (S := fun _ => False) o1 (Keep.ofBelow hb2) (fun _ _ h => h)
  have hb12 := hb1.trans (hb2.mono hb1.size)
  have hbm2 : bm ≠ lb := fun e => by have := h1.lt; omega
  have h3 : LD (w2.setCell ⟨lb, 4, none⟩ (.int .i64 (i : Int))) F lb d most v { c with cnt := i } dn k := h2.set 4 _ rfl
  have hk3 : Keep (fun j => j = lb) w2 (w2.setCell ⟨lb, 4, none⟩ (.int .i64 (i : Int))) := (Keep.refl (fun j => j = lb) w2).setCell (p := ⟨lb, 4, none⟩) rfl _
  have hM3 := hM2.keep hk3 hbm2
  have hlbw := h.lt
  have o3 := own_keep o2 hk3 (fun g hg e => by have := (o1.lt g hg).1; omega)
  have kp3 : Keep (fun j => F j ∨ j = lb) w (w2.setCell ⟨lb, 4, none⟩ (.int .i64 (i : Int))) := (Keep.ofBelow hb12).trans (hk3.mono (fun j e => Or.inr e))
  have hbmw : w.heap.size ≤ bm := Nat.le_trans hb1.size hbm
  clear h1 hP1 hown hct h2 o2 hM2 hk3 hb12 hile
  go_upto_region 5 with fail
  generalize w2.setCell ⟨lb, 4, none⟩ (.int .i64 (i : Int)) = w3 at *
  have hbmS : bm < w3.heap.size := hM3.lt
  have hrowS : ∀ g, (Value.slice a1 N c1).ownBlock = some g → g < w3.heap.size := fun g hg => (o3.lt g hg).2
  have hrowW : ∀ g, (Value.slice a1 N c1).ownBlock = some g → w.heap.size ≤ g := fun g hg => (o3.lt g hg).1
  have Hst0 : Hid (LD w3 F lb d most v { c with cnt := i } dn k) := h3
  clear hln p4 z4 hb2 hb1 o1
  go_loopw [6, 7, 8, 34] (fun _ _ _ s34 wr => ∃ (j : Nat) (F1 : Nat → Prop) (dn1 : Bool) (k1 : Dk), s34 = .int .i64 j ∧ j ≤ N ∧ k1.steps + (N - j) ≤ 900000 + 2500 ∧ k1.fs.length ≤ 2500 ∧ Hid (LD wr F1 lb d most v { c with cnt := i } dn1 k1) ∧ Hid (Keep (fun j => F j ∨ j = lb) w wr) ∧ Hid (∀ j, F1 j → F j ∨ w.heap.size ≤ j) ∧ Hid (∀ j, F1 j → j ≠ bm ∧ ∀ g, (Value.slice a1 N c1).ownBlock = some g → j ≠ g) ∧ Hid (SMap wr bm (segs c.g 0 i)) ∧ Hid (wr.ownsRow w.heap.size 9 1 (.slice a1 N c1) N (nv ns)) ∧ Hid (remAll ((ns.drop j).filter (left c.g i)) dn1 k1 = (eR, dnR, kR))) (fun _ _ _ s34 _ => N - (intOf s34).toNat)
  case atStart =>
   refine ⟨0, F, dn, k, rfl, by omega, by omega, hfl, Hst0.out, kp3, fun j hj => Or.inl hj, fun j hj => ⟨fun e => ?_, fun g hg e => ?_⟩, hM3, o3, HR.out⟩
   ·have := h.D.lt j hj; omega
   ·have h9 := h.D.lt j hj; have := hrowW g hg; omega
  case round =>
   clear hM3 o3 kp3 h3 Hst0 HR hfl hst
   obtain ⟨j, F1, dn1, k1, rfl, hjN, hs1, hf1, HL, HK, HF, HB, HM, HO, HQ⟩ := hrel
   by_cases hjlt : j < N
   ·have hcj : (j : Int) < (N : Int) := by omega
    have hj0 : (0 : Int) ≤ (j : Int) := by omega
    have hjl : j < ns.length := by rw [HN.out]; exact hjlt
    obtain ⟨x, hx⟩ : ∃ x, ns[j]? = some x := ⟨_, List.getElem?_eq_getElem hjl⟩
    have hnvj : (nv ns)[j]? = some (.string x) := by unfold nv; rw [List.getElem?_map, hx]; rfl
    obtain ⟨gr, hgr⟩ : ∃ g, a1 = some ⟨g, 0, none⟩ := by
     rcases HO.out.2 with ⟨_, h0⟩ | ⟨g, cap, cur, h1, _⟩
     ·omega
     ·cases h1; exact ⟨g, rfl⟩
    subst hgr
    have hc := HO.out.cells (g := gr) rfl j _ hnvj
    rw [add_flat, Nat.zero_add] at hc
    have hx64 := HSZ.out x (List.mem_of_getElem? hx)
    have hlk := HM.out.look x (by unfold maxLen; omega)
    have hdr : ns.drop j = x :: ns.drop (j + 1) := by
     rw [List.drop_eq_getElem_cons hjl]
     congr 1
     rw [List.getElem?_eq_getElem hjl] at hx
     injection hx
    have Hdr : Hid ((ns.drop j).filter (left c.g i) = if left c.g i x then x :: (ns.drop (j + 1)).filter (left c.g i) else (ns.drop (j + 1)).filter (left c.g i)) := by
     show _ = _
     rw [hdr, List.filter_cons]
    clear hdr hx hnvj
    have hiso := fun w => isOf_any x w
    obtain ⟨mn, Hmn⟩ : ∃ mn, Hid (inN x (segs c.g 0 i) = mn) := ⟨_, rfl⟩
    rw [Hmn.out] at hlk
    obtain ⟨so, Hso⟩ : ∃ so, Hid (isOf x = so) := ⟨_, rfl⟩
    simp only [Hso.out] at hiso
    have Hlf : Hid (left c.g i x = (!mn && so)) := by show _ = _; unfold left; rw [Hmn.out, Hso.out]
    have hstp := stpR_gr dn1 k1 x
    cases mn with
    | true =>
     have HQn : Hid (remAll ((ns.drop (j + 1)).filter (left c.g i)) dn1 k1 = (eR, dnR, kR)) := by
      have h9 := HQ.out
      rw [Hdr.out, Hlf.out] at h9
      exact h9
     clear HQ hiso hstp
     go_wp2
     exact ⟨⟨j + 1, F1, dn1, k1, by go_num, by omega, by omega, hf1, HL.out.below ((Below.refl _ _).alloc (Nat.le_refl _) _), HK.out.trans (Keep.ofBelow ((Below.refl _ _).alloc (Nat.le_refl _) _)), HF.out, HB.out, HM.out.below ((Below.refl _ _).alloc (Nat.le_refl _) _), own_keep (S := fun _ => False) HO.out ((Keep.refl _ _).alloc _) (fun _ _ h => h), HQn.out⟩, by simp [intOf]; omega⟩
    | false =>
     cases so with
     | false =>
      have HQn : Hid (remAll ((ns.drop (j + 1)).filter (left c.g i)) dn1 k1 = (eR, dnR, kR)) := by
       have h9 := HQ.out
       rw [Hdr.out, Hlf.out] at h9
       exact h9
      clear HQ hstp
      go_wp2_with (first
       | (go_at_call 133; refine (hiso _).mono ?_; rintro e w5 ⟨rfl, h5⟩; replace h5 := h5.symm; subst h5))
      exact ⟨⟨j + 1, F1, dn1, k1, by go_num, by omega, by omega, hf1, HL.out.below ((Below.refl _ _).alloc (Nat.le_refl _) _), HK.out.trans (Keep.ofBelow ((Below.refl _ _).alloc (Nat.le_refl _) _)), HF.out, HB.out, HM.out.below ((Below.refl _ _).alloc (Nat.le_refl _) _), own_keep (S := fun _ => False) HO.out ((Keep.refl _ _).alloc _) (fun _ _ h => h), HQn.out⟩, by simp [intOf]; omega⟩
     | true =>
      have HQn : Hid (remAll (x :: (ns.drop (j + 1)).filter (left c.g i)) dn1 k1 = (eR, dnR, kR)) := by
       have h9 := HQ.out
       rw [Hdr.out, Hlf.out] at h9
       exact h9
      clear HQ
      have hrm := fun w' (hb : Below wr.heap.size wr w') => sremove_any lb d most F1 v _ dn1 k1 x (by omega) w' (HL.out.below hb)
      obtain ⟨P, HP⟩ : ∃ P, Hid (stp dn1 k1 (removeK k1 x) = P) := ⟨_, rfl⟩
      simp only [HP.out] at hrm
      rw [HP.out] at hstp
      obtain ⟨en, dn2, k2⟩ := P
      dsimp only at hrm hstp
      by_cases h0 : en = 0
      ·subst h0
       have HQ2 : Hid (remAll ((ns.drop (j + 1)).filter (left c.g i)) dn2 k2 = (eR, dnR, kR)) := by
        show _ = _
        rw [← remAll_ok HP.out]
        exact HQn.out
       clear HQn
       go_wp2_with (first
        | (go_at_call 133; refine (hiso _).mono ?_; rintro e w5 ⟨rfl, h5⟩; replace h5 := h5.symm; subst h5)
        | (go_at_call 134; refine ((hrm _ ((Below.refl _ _).alloc (Nat.le_refl _) _)).mono (fun e w' h => And.intro (h.1.elim (fun k => k.2) (fun k => absurd rfl k.1)) h.2 : ∀ e w', _ → (e = .returned (.tuple #[]) ∧ _))).mono ?_; rintro e w6 ⟨rfl, hp⟩))
       obtain ⟨F2, hL2, hk2, hF2⟩ := hp.from ((Below.refl wr.heap.size wr).alloc (Nat.le_refl _) _)
       have hbmr := HM.out.lt
       have hgrl := fun g hg => (HO.out.lt g hg).2
       have hgrw := fun g hg => (HO.out.lt g hg).1
       have hsw := HK.out.size
       have hlbr := HL.out.lt
       have hkall : Keep (fun j => F j ∨ j = lb) w w6 := HK.out.andThen hk2 (fun q hq hs => by
        rcases hs with hs | hs
        ·rcases HF.out q hs with h9 | h9
         ·exact Or.inl h9
         ·omega
        ·exact Or.inr hs)
       have hn1 : ¬ (F1 bm ∨ bm = lb) := fun h9 => h9.elim (fun h9 => (HB.out bm h9).1 rfl) hbm2
       have hn2 : ∀ g, (Value.slice (some ⟨gr, 0, none⟩) N c1).ownBlock = some g → ¬ (F1 g ∨ g = lb) := fun g hg h9 => h9.elim (fun h9 => (HB.out g h9).2 g hg rfl) (fun e => by have := hgrw g hg; omega)
       exact ⟨⟨j + 1, F2, dn2, k2, by go_num, by omega, by omega, by omega, hL2, hkall, fun q hq => (hF2 q hq).elim (HF.out q) (fun h9 => Or.inr (Nat.le_trans hsw h9)), fun q hq => ⟨fun e => (hF2 q hq).elim (fun h9 => (HB.out q h9).1 e) (fun h9 => by omega), fun g hg e => (hF2 q hq).elim (fun h9 => (HB.out q h9).2 g hg e) (fun h9 => by have := hgrl g hg; omega)⟩, HM.out.keep hk2 hn1, own_keep HO.out hk2 hn2, HQ2.out⟩, by simp [intOf]; omega⟩
      ·have hres := HQn.out.symm.trans (remAll_no HP.out h0)
       simp only [Prod.mk.injEq] at hres
       obtain ⟨e1, e2, e3⟩ := hres
       subst eR dnR kR
       clear HQn
       go_wp2_with (first
        | (go_at_call 133; refine (hiso _).mono ?_; rintro e w5 ⟨rfl, h5⟩; replace h5 := h5.symm; subst h5)
        | (go_at_call 134; refine ((hrm _ ((Below.refl _ _).alloc (Nat.le_refl _) _)).mono (fun e w' h => And.intro (h.1.elim (fun k => absurd k.1 h0) (fun k => k.2)) h.2 : ∀ e w', _ → (e = .panicked (gaveS en) ∧ _))).mono ?_; rintro e w6 ⟨rfl, hp⟩))
       exact ⟨rfl, gs_no h0 rfl, Lp.next HK.out HF.out (hp.from ((Below.refl wr.heap.size wr).alloc (Nat.le_refl _) _))⟩
   ·obtain rfl : j = N := by omega
    have hcj : ¬ (j : Int) < (j : Int) := by omega
    have hQ := HQ.out
    rw [List.drop_eq_nil_of_le (by rw [HN.out]; exact Nat.le_refl _)] at hQ
    have hQ2 : (0, dn1, k1) = (eR, dnR, kR) := hQ
    simp only [Prod.mk.injEq] at hQ2
    obtain ⟨e1, e2, e3⟩ := hQ2
    subst eR dnR kR
    clear hQ HQ
    go_wp2
    go_end0
    exact ⟨Or.inl ⟨rfl, rfl⟩, F1, HL.out, HK.out, HF.out⟩
 ·rw [if_pos h0]
  have e0 : ((en : Int) == 0) = false := by rw [beq_eq_false_iff_ne]; omega
  clear hpw hsz
  go_enter Tryz.func99, Tryz.ntmps99
  go_wp2_with (first
   | (go_at_call 37; refine hls.mono ?_; rintro e w1 ⟨v1, rfl, o1, hb1⟩; obtain ⟨a1, c1, rfl, hn1⟩ := own_formN o1)
   | (go_at_call 129; refine (sask_no en _).mono ?_; rintro e w5 ⟨rfl, h5⟩; replace h5 := h5.symm; subst h5))
  exact ⟨rfl, gs_no h0 rfl, Lp.ofBelow h hb1⟩
end Go.Proofs.YtikkieaokfailaaGreatDoor

namespace Go.Proofs.YtikkieaokfailaaGreatDoor
open Go.RowKit Go.Joins
set_option maxHeartbeats 2000000 in
theorem remSegs_any (w : World) (F : Nat → Prop) (lb d most : Nat) (v : Value) (c : Ch) (dn : Bool) (k : Dk) (c2 : Ch) (f : Nat) (h : LD w F lb d most v c dn k) (hP : Pf w F lb) (hg : c2.g < 18446744073709551616) (hc : c2.cnt ≤ 100000) (hst : k.steps + c2.cnt < 1000000) :
  Calls Tryz.prog 112 #[.pointer (some ⟨lb, 0, none⟩), .agg (chs c2), .int .i64 ((f + 1 : Nat) : Int)] w fun e w' => Gs (remAll (segs c2.g f (c2.cnt - f)) dn k).1 e ∧ Lp w F lb d most v c (remAll (segs c2.g f (c2.cnt - f)) dn k).2.1 (remAll (segs c2.g f (c2.cnt - f)) dn k).2.2 w' := by
 obtain ⟨R, HR⟩ : ∃ R, Hid (remAll (segs c2.g f (c2.cnt - f)) dn k = R) := ⟨_, rfl⟩
 rw [HR.out]
 obtain ⟨eR, dnR, kR⟩ := R
 dsimp only
 have hbe : Below w.heap.size w (w.alloc (.cells (chs c2) 117)) := (Below.refl _ _).alloc (Nat.le_refl _) _
 have hfil := alloc_at w (.cells (chs c2) 117)
 have hlt := h.D.lt
 have hlb := h.lt
 obtain ⟨N, HN⟩ : ∃ N, Hid (c2.cnt = N) := ⟨_, rfl⟩
 rw [HN.out] at hc hst
 obtain ⟨g, Hg⟩ : ∃ g, Hid (c2.g = g) := ⟨_, rfl⟩
 rw [Hg.out] at hg
 have hch : chs c2 = #[.int .u64 (g : Int), .int .i64 (N : Int), .int .i64 (c2.size : Int), .bool c2.loose] := by unfold chs; rw [Hg.out, HN.out]
 have hf1 : ((f + 1 : Nat) : Int) = (f : Int) + 1 := by omega
 have hbb : ¬ F w.heap.size := fun hf => by have := hlt _ hf; omega
 have hLA := h.below hbe
 have hPA := hP.below hbe
 rw [hch] at hfil hbe hLA hPA ⊢
 rw [hf1]
 have hR9 : Hid (remAll (segs g f (N - f)) dn k = (eR, dnR, kR)) := by
  have h9 := HR.out
  rw [Hg.out, HN.out] at h9
  exact h9
 clear HR hch
 go_enter Tryz.func112, Tryz.ntmps112
 go_upto_region 2 with fail
 obtain ⟨bb, hbb0⟩ : ∃ bb, w.heap.size = bb := ⟨_, rfl⟩
 rw [hbb0] at hfil hbb ⊢
 generalize w.alloc (.cells #[.int .u64 (g : Int), .int .i64 (N : Int), .int .i64 (c2.size : Int), .bool c2.loose] 117) = Z at *
 go_loopw [6] (fun s6 wr => ∃ (j : Nat) (F1 : Nat → Prop) (dn1 : Bool) (k1 : Dk), s6 = .int .i64 (((f + j : Nat) : Int) + 1) ∧ (f + j ≤ N ∨ j = 0) ∧ k1.steps + (N - (f + j)) < 1000000 ∧ Hid (LD wr F1 lb d most v c dn1 k1) ∧ Hid (Pf wr F1 lb) ∧ Hid (Keep (fun i => F i ∨ i = lb) w wr) ∧ Hid (∀ i, F1 i → F i ∨ w.heap.size ≤ i) ∧ Hid (¬ F1 bb) ∧ Hid (wr.heap[bb]? = some (.cells #[.int .u64 (g : Int), .int .i64 (N : Int), .int .i64 (c2.size : Int), .bool c2.loose] 117 (0, 0))) ∧ Hid (remAll (segs g (f + j) (N - (f + j))) dn1 k1 = (eR, dnR, kR))) (fun s6 _ => N + 1 - (intOf s6).toNat)
 case atStart => exact ⟨0, F, dn, k, rfl, Or.inr rfl, by omega, hLA, hPA, Keep.ofBelow hbe, fun i hi => Or.inl hi, hbb, hfil, hR9.out⟩
 case round =>
  clear hLA hPA hbe hfil hbb hR9
  obtain ⟨j, F1, dn1, k1, rfl, hjN, hs1, HL, HP, HK, HF, HB, HX, HQ⟩ := hrel
  have qc : wr.cell? ⟨bb, 1, none⟩ = some (.int .i64 (N : Int)) := by rw [cell_of_block HX.out]; rfl
  have qg : wr.cell? ⟨bb, 0, none⟩ = some (.int .u64 (g : Int)) := by rw [cell_of_block HX.out]; rfl
  obtain ⟨J, HJ⟩ : ∃ J, Hid (f + j = J) := ⟨_, rfl⟩
  rw [HJ.out] at hjN hs1 HQ ⊢
  have hbw : w.heap.size = bb := hbb0
  by_cases hle : J + 1 ≤ N
  ·have hz : (J : Int) + 1 ≤ (N : Int) := by omega
   have hsg := segment_any bb 0 g (J + 1) hg (by omega) wr HP.out.pw qg
   have hJ1 : ((J + 1 : Nat) : Int) = (J : Int) + 1 := by omega
   rw [hJ1] at hsg
   obtain ⟨s, Hs⟩ : ∃ s, Hid (segN g (J + 1) = s) := ⟨_, rfl⟩
   rw [Hs.out] at hsg
   have HQn : Hid (remAll (s :: segs g (J + 1) (N - (J + 1))) dn1 k1 = (eR, dnR, kR)) := by
    have h9 := HQ.out
    have e : N - J = (N - (J + 1)) + 1 := by omega
    rw [e, segs_cons, Hs.out] at h9
    exact h9
   have hstp := stpR_gr dn1 k1 s
   have hrm := fun w' (hb : Below wr.heap.size wr w') => sremove_any lb d most F1 v _ dn1 k1 s (by omega) w' (HL.out.below hb)
   obtain ⟨P, HP2⟩ : ∃ P, Hid (stp dn1 k1 (removeK k1 s) = P) := ⟨_, rfl⟩
   simp only [HP2.out] at hrm
   rw [HP2.out] at hstp
   obtain ⟨en, dn2, k2⟩ := P
   dsimp only at hrm hstp
   clear HQ
   by_cases h0 : en = 0
   ·subst h0
    have HQ2 : Hid (remAll (segs g (J + 1) (N - (J + 1))) dn2 k2 = (eR, dnR, kR)) := by
     show _ = _
     rw [← remAll_ok HP2.out]
     exact HQn.out
    clear HQn
    go_wp2_with (first
     | (go_at_call 103; refine hsg.mono ?_; rintro e w5 ⟨rfl, hb5⟩)
     | (go_at_call 134; refine ((hrm w5 hb5).mono (fun e w' h => And.intro (h.1.elim (fun k => k.2) (fun k => absurd rfl k.1)) h.2 : ∀ e w', _ → (e = .returned (.tuple #[]) ∧ _))).mono ?_; rintro e w6 ⟨rfl, hp⟩))
    obtain ⟨F2, hL2, hk2, hF2⟩ := hp.from hb5
    have hsw := HK.out.size
    have hbr : bb < wr.heap.size := (Array.getElem?_eq_some_iff.1 HX.out).1
    have hkall : Keep (fun j => F j ∨ j = lb) w w6 := HK.out.andThen hk2 (fun q hq hs => by
     rcases hs with hs | hs
     ·rcases HF.out q hs with h9 | h9
      ·exact Or.inl h9
      ·omega
     ·exact Or.inr hs)
    have hnb : ¬ (F1 bb ∨ bb = lb) := fun h9 => h9.elim HB.out (fun e => by omega)
    refine ⟨⟨j + 1, F2, dn2, k2, ?_, Or.inl ?_, ?_, hL2, HP.out.next hk2 hF2, hkall, fun q hq => (hF2 q hq).elim (HF.out q) (fun h9 => Or.inr (Nat.le_trans hsw h9)), fun hq => (hF2 bb hq).elim HB.out (fun h9 => by omega), box_keep HX.out hk2 hnb, ?_⟩, ?_⟩
    ·have e : ((f + (j + 1) : Nat) : Int) = (J : Int) + 1 := by have := HJ.out; omega
     rw [e]
    ·have := HJ.out; omega
    ·have := HJ.out; omega
    ·show remAll (segs g (f + (j + 1)) (N - (f + (j + 1)))) dn2 k2 = _
     have e : f + (j + 1) = J + 1 := by have := HJ.out; omega
     rw [e]
     exact HQ2.out
    ·simp [intOf]; omega
   ·have hres := HQn.out.symm.trans (remAll_no HP2.out h0)
    simp only [Prod.mk.injEq] at hres
    obtain ⟨e1, e2, e3⟩ := hres
    subst eR dnR kR
    clear HQn
    go_wp2_with (first
     | (go_at_call 103; refine hsg.mono ?_; rintro e w5 ⟨rfl, hb5⟩)
     | (go_at_call 134; refine ((hrm w5 hb5).mono (fun e w' h => And.intro (h.1.elim (fun k => absurd k.1 h0) (fun k => k.2)) h.2 : ∀ e w', _ → (e = .panicked (gaveS en) ∧ _))).mono ?_; rintro e w6 ⟨rfl, hp⟩))
    exact ⟨rfl, gs_no h0 rfl, Lp.next HK.out HF.out (hp.from hb5)⟩
  ·have hz : ¬ (J : Int) + 1 ≤ (N : Int) := by omega
   have hQ := HQ.out
   rw [show N - J = 0 from by omega] at hQ
   have hQ2 : (0, dn1, k1) = (eR, dnR, kR) := hQ
   simp only [Prod.mk.injEq] at hQ2
   obtain ⟨e1, e2, e3⟩ := hQ2
   subst eR dnR kR
   clear hQ HQ
   go_wp2
   go_end0
   exact ⟨Or.inl ⟨rfl, rfl⟩, F1, HL.out, HK.out, HF.out⟩
set_option maxHeartbeats 1000000 in
theorem cutC_any (bl bn lb d most : Nat) (F : Nat → Prop) (v : Value) (c : Ch) (dn : Bool) (k : Dk) (s : Nm) (hst : k.steps < 1000000) (hfl : k.fs.length < 1000000) (W : World) (h : LD W F lb d most v c dn k) (hbl : W.heap[bl]? = some (.cells #[.pointer (some ⟨lb, 0, none⟩)] 48 (0, 0))) (hbn : W.heap[bn]? = some (.cells #[.string s] 9 (0, 0))) (nbl : ¬ F bl) (nbn : ¬ F bn) :
  Calls Tryz.prog 155 #[.pointer (some ⟨bl, 0, none⟩), .pointer (some ⟨bn, 0, none⟩)] W fun e w' => e = .returned (.int .i64 (cutK k s (c.size : Int)).1) ∧ Dp W F d (cutK k s (c.size : Int)).2 w' := by
 have HS0 : W.drew.cell? ⟨bl, 0, none⟩ = some (.pointer (some ⟨lb, 0, none⟩)) ∧ W.drew.cell? ⟨bn, 0, none⟩ = some (.string s) ∧ W.drew.cell? ⟨lb, 0, none⟩ = some (.pointer (some ⟨d, 0, none⟩)) ∧ W.drew.cell? ⟨lb, 5, none⟩ = some (.int .i64 (c.size : Int)) := ⟨box_cell hbl, box_cell hbn, h.c0, h.c5⟩
 have hD := fun w' (hb : Below W.heap.size W w') => cut_any d F k s (c.size : Int) hst hfl w' (h.D.below hb)
 obtain ⟨P, hP⟩ : ∃ P, cutK k s (c.size : Int) = P := ⟨_, rfl⟩
 rw [hP] at hD ⊢
 clear hP
 have nlb := h.nf
 go_enter Tryz.func155, Tryz.ntmps155
 go_upto_region 1 with fail
 refine wp_region_lx (fun w' => w'.cell? ⟨bl, 0, none⟩ = some (.pointer (some ⟨lb, 0, none⟩)) ∧ w'.cell? ⟨bn, 0, none⟩ = some (.string s) ∧ w'.cell? ⟨lb, 0, none⟩ = some (.pointer (some ⟨d, 0, none⟩)) ∧ w'.cell? ⟨lb, 5, none⟩ = some (.int .i64 (c.size : Int))) [] 12 (by kernel_rfl) (by kernel_rfl) ?_
 refine lx_r 0 (.pointer (some ⟨lb, 0, none⟩)) HS0 ?_ (hv := fun w' hS => by have q := hS.1; first | (go_simp; rfl) | go_simp); simp only [lxa, lxb, lxc]
 refine lx_r 1 (.pointer (some ⟨lb, 0, none⟩)) HS0 ?_; simp only [lxa, lxb, lxc]
 refine lx_r 2 (.pointer (some ⟨lb, 0, none⟩)) HS0 ?_; simp only [lxa, lxb, lxc]
 refine lx_r 3 (.pointer (some ⟨d, 0, none⟩)) HS0 ?_ (hv := fun w' hS => by have q := hS.2.2.1; first | (go_simp; rfl) | go_simp); simp only [lxa, lxb, lxc]
 refine lx_r 4 (.string s) HS0 ?_ (hv := fun w' hS => by have q := hS.2.1; first | (go_simp; rfl) | go_simp); simp only [lxa, lxb, lxc]
 refine lx_r 5 (.pointer (some ⟨lb, 0, none⟩)) HS0 ?_ (hv := fun w' hS => by have q := hS.1; first | (go_simp; rfl) | go_simp); simp only [lxa, lxb, lxc]
 refine lx_r 6 (.pointer (some ⟨lb, 0, none⟩)) HS0 ?_; simp only [lxa, lxb, lxc]
 refine lx_r 7 (.pointer (some ⟨lb, 3, none⟩)) HS0 ?_; simp only [lxa, lxb, lxc]
 refine lx_r 8 (.pointer (some ⟨lb, 5, none⟩)) HS0 ?_; simp only [lxa, lxb, lxc]
 refine lx_r 9 (.int .i64 (c.size : Int)) HS0 ?_ (hv := fun w' hS => by have q := hS.2.2.2; first | (go_simp; rfl) | go_simp); simp only [lxa, lxb, lxc]
 refine lx_one 10 (by kernel_rfl) (stepT_call 156 ?a9 rfl rfl rfl ?r9 ?_)
 case r9 => first | (go_simp; rfl) | go_simp
 refine (hD W.drew ((Below.refl _ _).drew)).mono ?_
 rintro e w1 ⟨rfl, hdp⟩
 have HS1 : w1.cell? ⟨bl, 0, none⟩ = some (.pointer (some ⟨lb, 0, none⟩)) ∧ w1.cell? ⟨bn, 0, none⟩ = some (.string s) ∧ w1.cell? ⟨lb, 0, none⟩ = some (.pointer (some ⟨d, 0, none⟩)) ∧ w1.cell? ⟨lb, 5, none⟩ = some (.int .i64 (c.size : Int)) := by
  obtain ⟨_, _, hk, _⟩ := hdp
  exact ⟨hk.cell (p := ⟨bl, 0, none⟩) HS0.1 nbl, hk.cell (p := ⟨bn, 0, none⟩) HS0.2.1 nbn, hk.cell (p := ⟨lb, 0, none⟩) HS0.2.2.1 nlb, hk.cell (p := ⟨lb, 5, none⟩) HS0.2.2.2 nlb⟩
 refine ⟨_, rfl, fun _ => HS1, ?_⟩
 simp only [lxa, lxb, lxc]
 refine lx_r 11 _ HS1 ?_; simp only [lxa, lxb, lxc]
 refine lx_nil (by kernel_rfl) ?_
 go_wp2
 go_ret
 exact ⟨rfl, dp_drew hdp⟩
end Go.Proofs.YtikkieaokfailaaGreatDoor

namespace Go.Proofs.YtikkieaokfailaaGreatDoor
open Go.RowKit Go.Joins
def scanF : Nat → List Int → List (List Int) × Nat × Bool
 | 0, _ => ([], 0, true)
 | f + 1, xs => if xs.length = 0 then ([], 0, true) else match recO xs with
  | none => ([], 0, false)
  | some r => (r :: (scanF f (xs.drop (8 + r.length))).1, 8 + r.length + (scanF f (xs.drop (8 + r.length))).2.1, (scanF f (xs.drop (8 + r.length))).2.2)
theorem scanF_nil (f : Nat) (xs : List Int) (h : xs.length = 0) : scanF f xs = ([], 0, true) := by
 cases f with
 | zero => rfl
 | succ f => unfold scanF; rw [if_pos h]
theorem scanF_no {f : Nat} {xs : List Int} (h : xs.length ≠ 0) (h2 : recO xs = none) : scanF (f + 1) xs = ([], 0, false) := by
 unfold scanF; rw [if_neg h, h2]
theorem scanF_some {f : Nat} {xs r : List Int} (h : xs.length ≠ 0) (h2 : recO xs = some r) : scanF (f + 1) xs = (r :: (scanF f (xs.drop (8 + r.length))).1, 8 + r.length + (scanF f (xs.drop (8 + r.length))).2.1, (scanF f (xs.drop (8 + r.length))).2.2) := by
 conv => lhs; unfold scanF
 rw [if_neg h, h2]
theorem recO_len {xs r : List Int} (h : recO xs = some r) : 8 + r.length ≤ xs.length ∧ r.length ≤ 1048576 ∧ (Bd xs → Bd r) := by
 unfold recO at h
 split at h
 ·cases h
 ·rename_i h8
  split at h
  ·cases h
  ·rename_i hb
   split at h
   ·injection h with h
    subst h
    have hK : numL (xs.take 4) ≤ 1048576 ∧ numL (xs.take 4) ≤ xs.length - 8 := by omega
    refine ⟨?_, ?_, fun hx => (hx.drop 8).take _⟩
    ·rw [List.length_take, List.length_drop]; omega
    ·rw [List.length_take, List.length_drop]; omega
   ·cases h
def GsB (en : Nat) (b : Bool) (e : Ending) : Prop := (en = 0 ∧ e = .returned (.bool b)) ∨ (en ≠ 0 ∧ e = .panicked (gaveS en))
theorem gsb_no {en : Nat} {b : Bool} {e : Ending} (h : en ≠ 0) (he : e = .panicked (gaveS en)) : GsB en b e := Or.inr ⟨h, he⟩
def readSegR (l : Lg) (s : Nm) (k : Dk) (r : Nat × List Int) : Nat × Bool × Lg × Dk :=
 if r.1 ≠ 0 then (r.1, false, l, k)
 else if (scanF r.2.length r.2).2.2 then (0, true, ⟨l.most, l.recs ++ (scanF r.2.length r.2).1, { l.ch with size := (scanF r.2.length r.2).2.1 }, l.dn⟩, k)
 else ((stp l.dn k (cutK k s ((scanF r.2.length r.2).2.1 : Int))).1, false, ⟨l.most, l.recs ++ (scanF r.2.length r.2).1, { l.ch with size := (scanF r.2.length r.2).2.1 }, (stp l.dn k (cutK k s ((scanF r.2.length r.2).2.1 : Int))).2.1⟩, (stp l.dn k (cutK k s ((scanF r.2.length r.2).2.1 : Int))).2.2)
def readSegL (l : Lg) (i : Nat) (k : Dk) : Nat × Bool × Lg × Dk := readSegR l (segN l.ch.g i) k (readK k (segN l.ch.g i))
theorem add_rec {X w3 : World} {F H : Nat → Prop} {lb d : Nat} {l : Lg} {k : Dk} {v : Value} (h : LogAt X F H lb d l k) (hrecs : l.recs.length ≤ 1000000) (hLD : LD X F lb d l.most v l.ch l.dn k) (hRc : RcA X H v l.recs) (hb3 : Below X.heap.size X w3) {au : Option Addr} {n cu : Nat} {r : List Int} (ou : w3.ownsRow X.heap.size 5 1 (.slice au n cu) n (bc r)) (hn : r.length = n) (hbr : Bd r) :
  ∃ av cv w4, (Builtin.append_ #[30, 30] 30 #[v, .slice (some ⟨w3.heap.size, 0, none⟩) 1 1]).run Tryz.prog (w3.alloc (.cells #[.slice au n cu] 29)) = .ok (.slice av (l.recs.length + 1) cv) w4 ∧ Keep (fun q => v.ownBlock = some q) w3 w4 ∧ LD w4 F lb d l.most v l.ch l.dn k ∧
   ∃ H9 : Nat → Prop, LogAt (w4.setCell ⟨lb, 2, none⟩ (.slice av (l.recs.length + 1) cv)) F H9 lb d ⟨l.most, l.recs ++ [r], l.ch, l.dn⟩ k ∧ Keep (fun i => F i ∨ H i ∨ i = lb) X (w4.setCell ⟨lb, 2, none⟩ (.slice av (l.recs.length + 1) cv)) ∧ (∀ i, H9 i → H i ∨ X.heap.size ≤ i) := by
 have hL3 := hLD.below hb3
 have hR3 := hRc.keep (S := fun _ => False) (H' := H) (Keep.ofBelow hb3) (fun _ _ h => h) (fun _ h => h)
 have hP3 := h.pf.below hb3
 obtain ⟨⟨vs, ov, hvs⟩, hvo⟩ := hR3
 obtain ⟨v', w4, hrun4, ov4, hk4, hwh4⟩ := run_appW 30 ov au n cu hrecs (Nat.zero_le _)
 obtain ⟨av, cv, rfl⟩ := own_sl ov4
 have nlb : ¬ v.ownBlock = some lb := fun hv => h.hl (hvo lb hv)
 have hL4 : LD w4 F lb d l.most v l.ch l.dn k := hL3.keep hk4 (fun i hi hv => h.hf i (hvo i hv) hi) nlb
 have hL5 : LD (w4.setCell ⟨lb, 2, none⟩ (.slice av (l.recs.length + 1) cv)) F lb d l.most (.slice av (l.recs.length + 1) cv) l.ch l.dn k := hL4.set 2 _ rfl
 have hsz3 := hb3.size
 have hsz4 := hk4.size
 obtain ⟨H9, hH9⟩ : ∃ H9 : Nat → Prop, H9 = (fun i => H i ∨ (X.heap.size ≤ i ∧ i < w4.heap.size)) := ⟨_, rfl⟩
 have hHin : ∀ i, H i → H9 i := fun i hi => by rw [hH9]; exact Or.inl hi
 have hHout : ∀ i, H9 i → H i ∨ (X.heap.size ≤ i ∧ i < w4.heap.size) := fun i hi => by rw [hH9] at hi; exact hi
 have hu0 := own_weak ou (Nat.zero_le _)
 have hRA : RcA w4 H9 (.slice av (l.recs.length + 1) cv) (l.recs ++ [r]) := by
  refine RcA.app (vs := vs) (u := .slice au n cu) ov (fun i r hr => ?_) ov4 hk4 (by rw [hn]; exact hu0) (fun g hg => ?_) hbr (fun g hg => ?_)
  ·obtain ⟨u2, m1, m2, m3, m4⟩ := hvs i r hr
   exact ⟨u2, m1, m2, fun g hg => hHin g (m3 g hg), m4⟩
  ·rw [hH9]
   have := ou.lt g hg
   exact Or.inr ⟨this.1, by omega⟩
  ·rcases hwh4 with h9 | ⟨g9, h9, h10⟩
   ·exact hHin g (hvo g (by rw [← h9]; exact hg))
   ·rw [h9] at hg
    injection hg with hg
    subst hg
    rw [hH9]
    refine Or.inr ⟨by omega, ?_⟩
    obtain ⟨cur, e⟩ := own_blkT ov4 h9
    exact (Array.getElem?_eq_some_iff.1 e).1
 have hkS : Keep (fun i => i = lb) w4 (w4.setCell ⟨lb, 2, none⟩ (.slice av (l.recs.length + 1) cv)) := (Keep.refl (fun i => i = lb) w4).setCell (p := ⟨lb, 2, none⟩) rfl _
 have hlbX : lb < X.heap.size := hLD.lt
 have hFX := hLD.D.lt
 have hHlb : ¬ H9 lb := fun hh => (hHout lb hh).elim h.hl (fun h9 => by omega)
 have hRA5 := hRA.keep (H' := H9) hkS (fun i hi e => hHlb (by rw [← e]; exact hi)) (fun _ h => h)
 have hk34 : Keep (fun i => F i ∨ H i ∨ i = lb) X w4 := (Keep.ofBelow hb3).andThen hk4 (fun i hi hv => Or.inr (Or.inl (hvo i hv)))
 have hkE : Keep (fun i => F i ∨ H i ∨ i = lb) X (w4.setCell ⟨lb, 2, none⟩ (.slice av (l.recs.length + 1) cv)) := hk34.trans (hkS.mono (fun i e => Or.inr (Or.inr e)))
 have hPE : Pf (w4.setCell ⟨lb, 2, none⟩ (.slice av (l.recs.length + 1) cv)) F lb := ⟨h.pf.pw.keep hkE (fun hs => by
  rcases hs with hs | hs | hs
  ·have := h.pf.fl _ hs; omega
  ·have := h.ph _ hs; omega
  ·have := h.pf.ll; omega), hP3.fl, hP3.ll⟩
 refine ⟨av, cv, w4, hrun4, hk4, hL4, H9, ⟨⟨_, hL5, hRA5⟩, fun i hi hf => ?_, hHlb, fun i hi => ?_, hPE, fun i hi => ?_⟩, hkE, fun i hi => ?_⟩
 ·rcases hHout i hi with h9 | h9
  ·exact h.hf i h9 hf
  ·have := hFX i hf; omega
 ·have hs9 := hkS.size
  rcases hHout i hi with h9 | h9
  ·have := h.lt i h9; omega
  ·omega
 ·rcases hHout i hi with h9 | h9
  ·exact h.ph i h9
  ·have := h.pf.pw.at; omega
 ·rcases hHout i hi with h9 | h9
  ·exact Or.inl h9
  ·exact Or.inr h9.1
theorem LogAt.size {w : World} {F H : Nat → Prop} {lb d : Nat} {l : Lg} {k : Dk} (h : LogAt w F H lb d l k) (z : Nat) (u : Int) (hu : u = (z : Int)) : LogAt (w.setCell ⟨lb, 5, none⟩ (.int .i64 u)) F H lb d ⟨l.most, l.recs, { l.ch with size := z }, l.dn⟩ k := by
 obtain ⟨v, hLD, hRc⟩ := h.ex
 subst hu
 have hkS : Keep (fun i => i = lb) w (w.setCell ⟨lb, 5, none⟩ (.int .i64 (z : Int))) := (Keep.refl (fun i => i = lb) w).setCell (p := ⟨lb, 5, none⟩) rfl _
 exact ⟨⟨v, hLD.set 5 _ rfl, hRc.keep hkS (fun i hi e => h.hl (by rw [← e]; exact hi)) (fun _ h => h)⟩, h.hf, h.hl, fun i hi => Nat.lt_of_lt_of_le (h.lt i hi) hkS.size, ⟨h.pf.pw.keep hkS (by have := h.pf.ll; omega), h.pf.fl, h.pf.ll⟩, h.ph⟩
theorem Lgp.next {w w1 w2 : World} {F F1 H H1 : Nat → Prop} {lb d : Nat} {l : Lg} {k : Dk} (kp : Keep (fun i => F i ∨ H i ∨ i = lb) w w1) (e1 : ∀ i, F1 i → F i ∨ w.heap.size ≤ i) (e2 : ∀ i, H1 i → H i ∨ w.heap.size ≤ i) (h : Lgp w1 F1 H1 lb d l k w2) : Lgp w F H lb d l k w2 := by
 obtain ⟨F', H', h1, h2, h3, h4⟩ := h
 refine ⟨F', H', h1, kp.andThen h2 (fun i hi hs => ?_), fun i hi => ?_, fun i hi => ?_⟩
 ·rcases hs with hs | hs | hs
  ·rcases e1 i hs with h | h
   ·exact Or.inl h
   ·omega
  ·rcases e2 i hs with h | h
   ·exact Or.inr (Or.inl h)
   ·omega
  ·exact Or.inr (Or.inr hs)
 ·rcases h3 i hi with h | h
  ·exact e1 i h
  ·exact Or.inr (Nat.le_trans kp.size h)
 ·rcases h4 i hi with h | h
  ·exact e2 i h
  ·exact Or.inr (Nat.le_trans kp.size h)
theorem LogAt.stepd {w w' : World} {F H : Nat → Prop} {lb d : Nat} {l : Lg} {k k' : Dk} {v : Value} {dn' : Bool} (h : LogAt w F H lb d l k) (hRc : RcA w H v l.recs) (hp : Lp w F lb d l.most v l.ch dn' k' w') : Lgp w F H lb d ⟨l.most, l.recs, l.ch, dn'⟩ k' w' := by
 obtain ⟨F', h1, h2, h3⟩ := hp
 refine ⟨F', H, ⟨⟨v, h1, hRc.keep h2 (fun i hi hs => hs.elim (h.hf i hi) (fun e => h.hl (by rw [← e]; exact hi))) (fun _ h => h)⟩, fun i hi hf => ?_, h.hl, fun i hi => Nat.lt_of_lt_of_le (h.lt i hi) h2.size, h.pf.next h2 h3, h.ph⟩, h2.mono (fun i hi => hi.elim Or.inl (fun h => Or.inr (Or.inr h))), h3, fun i hi => Or.inl hi⟩
 rcases h3 i hf with h4 | h4
 ·exact h.hf i hi h4
 ·have := h.lt i hi; omega
set_option maxHeartbeats 8000000 in
set_option maxRecDepth 100000 in
theorem readSeg_any (w : World) (F H : Nat → Prop) (lb d : Nat) (l : Lg) (k : Dk) (i : Nat) (h : LogAt w F H lb d l k) (ok : l.Ok) (hi : i ≤ 1000000) (hst : k.steps < 999999) (hfl : k.fs.length < 999999) (hrl : l.recs.length + (readK k (segN l.ch.g i)).2.length ≤ 900000) :
  Calls Tryz.prog 135 #[.pointer (some ⟨lb, 0, none⟩), .int .i64 (i : Int)] w fun e w' => GsB (readSegL l i k).1 (readSegL l i k).2.1 e ∧ Lgp w F H lb d (readSegL l i k).2.2.1 (readSegL l i k).2.2.2 w' := by
 obtain ⟨v, hLD, hRc⟩ := h.ex
 have hF := hLD.D.lt
 have hH := h.lt
 have hlb := hLD.lt
 have hsg := fun w' (hb : Below w.heap.size w w') => segment_any lb 3 l.ch.g i ok.g (by omega) w' (h.pf.pw.below hb) (hLD.below hb).c3
 unfold readSegL
 have hss := segN_size l.ch.g i ok.g (by omega)
 obtain ⟨s, Hs⟩ : ∃ s, Hid (segN l.ch.g i = s) := ⟨_, rfl⟩
 rw [Hs.out] at hrl hss ⊢
 simp only [Hs.out] at hsg
 have hrd := fun w' (hb : Below w.heap.size w w') => read_any d F k s w' (hLD.D.below hb)
 have hbd : Bd (readK k s).2 := by
  rcases readK_cases' k s with ⟨f, hl, e⟩ | e
  ·rw [e]; dsimp only; exact (look_good hLD.D.good hl).2.2
  ·rw [e]; exact Bd.nil
 obtain ⟨P, HP⟩ : ∃ P, Hid (readK k s = P) := ⟨_, rfl⟩
 simp only [HP.out] at hrd
 rw [HP.out] at hrl hbd ⊢
 obtain ⟨en, xs⟩ := P
 dsimp only at hrd hrl hbd
 obtain ⟨R, HR⟩ : ∃ R, Hid (readSegR l s k (en, xs) = R) := ⟨_, rfl⟩
 rw [HR.out]
 obtain ⟨eR, bR, lR, kR⟩ := R
 dsimp only
 have hbe : Below w.heap.size w (w.alloc (.cells #[.pointer (some ⟨lb, 0, none⟩)] 48)) := (Below.refl _ _).alloc (Nat.le_refl _) _
 have q0 : (w.alloc (.cells #[.pointer (some ⟨lb, 0, none⟩)] 48)).cell? ⟨w.heap.size, 0, none⟩ = some (.pointer (some ⟨lb, 0, none⟩)) := box_cell (alloc_at w _)
 go_enter Tryz.func135, Tryz.ntmps135
 go_upto_region 2 with (first
  | (go_at_call 103; refine (hsg _ hbe).mono ?_; rintro e w1 ⟨rfl, hb1⟩))
 have hbZ : Below w.heap.size w (w1.alloc (.cells #[.string s] 9)) := (hbe.trans (hb1.mono hbe.size)).alloc (Nat.le_trans hbe.size hb1.size) _
 have hbl0 : w1.heap[w.heap.size]? = some (.cells #[.pointer (some ⟨lb, 0, none⟩)] 48 (0, 0)) := box_below (alloc_at w _) hb1
 have hbl : (w1.alloc (.cells #[.string s] 9)).heap[w.heap.size]? = some (.cells #[.pointer (some ⟨lb, 0, none⟩)] 48 (0, 0)) := box_below hbl0 ((Below.refl _ _).alloc (Nat.le_refl _) _)
 have hbn := alloc_at w1 (.cells #[.string s] 9)
 have hblt : w.heap.size < w1.heap.size := (Array.getElem?_eq_some_iff.1 hbl0).1
 obtain ⟨bl, hble⟩ : ∃ bl, w.heap.size = bl := ⟨_, rfl⟩
 obtain ⟨bn, hbne⟩ : ∃ bn, w1.heap.size = bn := ⟨_, rfl⟩
 rw [hble] at hbl hblt ⊢
 rw [hbne] at hbn hblt ⊢
 have nbl : ¬ F bl := fun hf => by have := hF _ hf; omega
 have nbn : ¬ F bn := fun hf => by have := hF _ hf; omega
 have nhl : ¬ H bl := fun hf => by have := hH _ hf; omega
 have nhn : ¬ H bn := fun hf => by have := hH _ hf; omega
 generalize w1.alloc (.cells #[.string s] 9) = Z at *
 clear hsg hbl0 q0 hbe
 refine wp_region_lx (fun w' => w'.cell? ⟨bl, 0, none⟩ = some (.pointer (some ⟨lb, 0, none⟩)) ∧ w'.cell? ⟨bn, 0, none⟩ = some (.string s) ∧ w'.cell? ⟨lb, 0, none⟩ = some (.pointer (some ⟨d, 0, none⟩))) [] 11 (by kernel_rfl) (by kernel_rfl) ?_
 have hbX : Below w.heap.size w Z.drew := hbZ.drew
 have hblX : Z.drew.heap[bl]? = some (.cells #[.pointer (some ⟨lb, 0, none⟩)] 48 (0, 0)) := hbl
 have hbnX : Z.drew.heap[bn]? = some (.cells #[.string s] 9 (0, 0)) := hbn
 clear hbZ hbl hbn
 generalize Z.drew = X at *
 have HS0 : X.cell? ⟨bl, 0, none⟩ = some (.pointer (some ⟨lb, 0, none⟩)) ∧ X.cell? ⟨bn, 0, none⟩ = some (.string s) ∧ X.cell? ⟨lb, 0, none⟩ = some (.pointer (some ⟨d, 0, none⟩)) := ⟨box_cell hblX, box_cell hbnX, (hLD.below hbX).c0⟩
 refine lx_r 0 (.pointer (some ⟨lb, 0, none⟩)) HS0 ?_ (hv := fun w' hS => by have q := hS.1; first | (go_simp; rfl) | go_simp); simp only [lxa, lxb, lxc]
 refine lx_r 1 (.pointer (some ⟨lb, 0, none⟩)) HS0 ?_; simp only [lxa, lxb, lxc]
 refine lx_r 2 (.pointer (some ⟨lb, 0, none⟩)) HS0 ?_; simp only [lxa, lxb, lxc]
 refine lx_r 3 (.pointer (some ⟨d, 0, none⟩)) HS0 ?_ (hv := fun w' hS => by have q := hS.2.2; first | (go_simp; rfl) | go_simp); simp only [lxa, lxb, lxc]
 refine lx_r 4 (.string s) HS0 ?_ (hv := fun w' hS => by have q := hS.2.1; first | (go_simp; rfl) | go_simp); simp only [lxa, lxb, lxc]
 refine lx_one 5 (by kernel_rfl) (stepT_call 38 ?a5 rfl rfl rfl ?r5 ?_)
 case r5 => first | (go_simp; rfl) | go_simp
 refine (hrd X hbX).mono ?_
 rintro e w3 ⟨v3, rfl, o3, hb3⟩
 obtain ⟨a6, c6, rfl, r6⟩ := Rd.ofOwn o3 hbd
 have t3 : ∀ p x, X.cell? p = some x → w3.cell? p = some x := fun p x hx => (hb3.cell (World.block_lt_of_cell? _ _ hx)).trans hx
 have HS3 := And.intro (t3 _ _ HS0.1) (And.intro (t3 _ _ HS0.2.1) (t3 _ _ HS0.2.2))
 refine ⟨_, rfl, fun _ => HS3, ?_⟩
 simp only [lxa, lxb, lxc]
 refine lx_r 6 _ HS3 ?_; simp only [lxa, lxb, lxc]
 refine lx_r 7 _ HS3 ?_; simp only [lxa, lxb, lxc]
 refine lx_r 8 _ HS3 ?_; simp only [lxa, lxb, lxc]
 refine lx_r 9 _ HS3 ?_; simp only [lxa, lxb, lxc]
 refine lx_r 10 _ HS3 ?_; simp only [lxa, lxb, lxc]
 refine lx_nil (by kernel_rfl) ?_
 have hbw3 : Below w.heap.size w w3 := hbX.trans (hb3.mono hbX.size)
 have h3 := h.below hbw3
 have hbl3 := box_below hblX hb3
 have hbn3 := box_below hbnX hb3
 have hnX : bn < X.heap.size := (Array.getElem?_eq_some_iff.1 hbnX).1
 have hrowX : ∀ ad, a6 = some ad → X.heap.size ≤ ad.block ∧ ad.block < w3.heap.size := fun ad had => by
  obtain ⟨ap, cp, e8, hob8⟩ := own_form o3
  exact o3.lt ad.block (by rw [had]; cases ap with | none => (rw [had] at e8; cases e8) | some g => (rw [had] at e8; cases e8; rfl))
 have hrow0 : ∀ ad, a6 = some ad → ∃ g, ad = ⟨g, 0, none⟩ := fun ad had => by
  obtain ⟨ap, cp, e8, hob8⟩ := own_form o3
  rw [had] at e8
  cases ap with
  | none => cases e8
  | some g => cases e8; exact ⟨g, rfl⟩
 clear hrd HS0 HS3 t3 hblX hbnX hb3 o3 hb1
 obtain ⟨N, HN⟩ : ∃ N, Hid (xs.length = N) := ⟨_, rfl⟩
 rw [HN.out] at hrl r6 ⊢
 by_cases h0 : en = 0
 ·subst h0
  obtain ⟨SC, HSc⟩ : ∃ SC, Hid (scanF N xs = SC) := ⟨_, rfl⟩
  obtain ⟨RS, NS, WH⟩ := SC
  have hRy : WH = true → (eR, bR, lR, kR) = (0, true, (⟨l.most, l.recs ++ RS, { l.ch with size := NS }, l.dn⟩ : Lg), k) := fun hw => by
   rw [← HR.out]
   unfold readSegR
   dsimp only
   rw [if_neg (by simp), HN.out, HSc.out, if_pos hw]
  have hRn : WH = false → (eR, bR, lR, kR) = ((stp l.dn k (cutK k s (NS : Int))).1, false, (⟨l.most, l.recs ++ RS, { l.ch with size := NS }, (stp l.dn k (cutK k s (NS : Int))).2.1⟩ : Lg), (stp l.dn k (cutK k s (NS : Int))).2.2) := fun hw => by
   rw [← HR.out]
   unfold readSegR
   dsimp only
   rw [if_neg (by simp), HN.out, HSc.out, if_neg (by rw [hw]; exact fun h => by cases h)]
  have HRy : Hid (WH = true → (eR, bR, lR, kR) = (0, true, (⟨l.most, l.recs ++ RS, { l.ch with size := NS }, l.dn⟩ : Lg), k)) := hRy
  have HRn : Hid (WH = false → (eR, bR, lR, kR) = ((stp l.dn k (cutK k s (NS : Int))).1, false, (⟨l.most, l.recs ++ RS, { l.ch with size := NS }, (stp l.dn k (cutK k s (NS : Int))).2.1⟩ : Lg), (stp l.dn k (cutK k s (NS : Int))).2.2)) := hRn
  clear hRy hRn HR
  obtain ⟨v3, hL3, hRc3⟩ := h3.ex
  have p5 := hL3.c5
  have z5 := hL3.fz 5
  have pl := box_cell hbl3
  have h4 := h3.size 0 0 rfl
  have hk4 : Keep (fun i => i = lb) w3 (w3.setCell ⟨lb, 5, none⟩ (.int .i64 0)) := (Keep.refl (fun i => i = lb) w3).setCell (p := ⟨lb, 5, none⟩) rfl _
  have hsw3 := hbw3.size
  have nbl2 : bl ≠ lb := by omega
  have nbn2 : bn ≠ lb := by omega
  have hbl4 := box_keep hbl3 hk4 nbl2
  have hbn4 := box_keep hbn3 hk4 nbn2
  have hXw : w.heap.size ≤ X.heap.size := hbX.size
  have r7 := r6.keep hk4 (fun ad had e => by have := hrowX ad had; omega)
  have kp4 : Keep (fun i => F i ∨ H i ∨ i = lb) w (w3.setCell ⟨lb, 5, none⟩ (.int .i64 0)) := (Keep.ofBelow hbw3).trans (hk4.mono (fun i e => Or.inr (Or.inr e)))
  have hn9 : N ≤ 900000 := by omega
  go_upto_region 5 with (first
   | (go_at_call 129; refine (sask_ok _ _).mono ?_; rintro e w5 ⟨rfl, h5⟩; replace h5 := h5.symm; subst h5))
  generalize w3.setCell ⟨lb, 5, none⟩ (.int .i64 0) = w4 at *
  have hB0 : ∀ i, H i → i ≠ bl ∧ i ≠ bn ∧ ∀ ad, a6 = some ad → i ≠ ad.block := fun i hi => by
   have h9 := hH i hi
   exact ⟨by omega, by omega, fun ad had e => by have := hrowX ad had; omega⟩
  clear p5 z5 pl hL3 hRc3 h3 hbl3 hbn3 r6 hk4 hbw3
  go_loopg [8, 9] N (fun gk s8 s9 wr => ∃ (sz f : Nat) (rs R1 : List (List Int)) (n1 : Nat) (H1 : Nat → Prop), sz + gk = N ∧ N - sz ≤ f ∧ 8 * rs.length ≤ sz ∧ Hid (LogAt wr F H1 lb d ⟨l.most, l.recs ++ rs, { l.ch with size := sz }, l.dn⟩ k) ∧ Hid (Keep (fun i => F i ∨ H i ∨ i = lb) w wr) ∧ Hid (∀ i, H1 i → H i ∨ w.heap.size ≤ i) ∧ Hid (∀ i, H1 i → i ≠ bl ∧ i ≠ bn ∧ ∀ ad, a6 = some ad → i ≠ ad.block) ∧ Hid (wr.heap[bl]? = some (.cells #[.pointer (some ⟨lb, 0, none⟩)] 48 (0, 0))) ∧ Hid (wr.heap[bn]? = some (.cells #[.string s] 9 (0, 0))) ∧ Hid (Rd wr a6 N c6 xs) ∧ Hid (scanF f (xs.drop sz) = (R1, n1, WH)) ∧ Hid (rs ++ R1 = RS ∧ sz + n1 = NS))
  case atStart =>
   refine ⟨0, N, [], RS, NS, H, by omega, by omega, by simp, ?_, kp4, fun i hi => Or.inl hi, hB0, hbl4, hbn4, r7, HSc.out, ⟨rfl, by omega⟩⟩
   show LogAt w4 F H lb d ⟨l.most, l.recs ++ [], { l.ch with size := 0 }, l.dn⟩ k
   rw [List.append_nil]
   exact h4
  case round =>
   clear h4 kp4 hB0 hbl4 hbn4 r7 HSc
   obtain ⟨sz, f, rs, R1, n1, H1, hsg, hNf, hrs8, HL, HK, HH, HB, HX1, HX2, HRd, HSc, HEq⟩ := hrel
   obtain ⟨vr, hLr, hRcr⟩ := HL.out.ex
   dsimp only at hLr hRcr
   have q5 : wr.cell? ⟨lb, 5, none⟩ = some (.int .i64 (sz : Int)) := hLr.c5
   have ql := box_cell HX1.out
   by_cases hlt : sz < N
   ·have hz1 : (sz : Int) < (N : Int) := by omega
    have hz0 : (0 : Int) ≤ (sz : Int) := by omega
    have hcap := HRd.out.cap
    have hmost : c6 ≤ 9223372036854775807 := HRd.out.most
    have hz2 : (N : Int) ≤ (c6 : Int) := by omega
    have hz3 : ¬ c6 = sz := by omega
    obtain ⟨gr, hgr⟩ : ∃ gr, a6 = some ⟨gr, 0, none⟩ := by
     cases ha : a6 with
     | none => have := HRd.out.nil ha; omega
     | some ad => obtain ⟨g, hg⟩ := hrow0 ad ha; exact ⟨g, by rw [hg]⟩
    subst hgr
    have hrd0 := HRd.out.dropN (k := sz) (by omega)
    rw [Nat.zero_add] at hrd0
    have hrec := record_any gr sz (N - sz) (c6 - sz) (xs.drop sz) wr hrd0 (by omega)
    have hdl : (xs.drop sz).length ≠ 0 := by rw [hrd0.len]; omega
    obtain ⟨f2, rfl⟩ : ∃ f2, f = f2 + 1 := ⟨f - 1, by omega⟩
    cases hro : recO (xs.drop sz) with
    | none =>
     have hR1 : ∀ e, Rec1 wr (xs.drop sz) e = ∃ v, e = .returned (.tuple #[v, .bool false]) := fun e => by unfold Rec1; rw [hro]
     simp only [hR1] at hrec
     have hsc := HSc.out.symm.trans (scanF_no hdl hro)
     simp only [Prod.mk.injEq] at hsc
     obtain ⟨e1, e2, e3⟩ := hsc
     subst e1 e2
     have hE2 := HEq.out
     rw [List.append_nil, Nat.add_zero] at hE2
     obtain ⟨e4, e5⟩ := hE2
     have hfin := HRn.out e3
     rw [← e4, ← e5] at hfin
     have hst9 := fun wq (hbq : Below wr.heap.size wr wq) => step_any 155 #[.pointer (some ⟨bl, 0, none⟩), .pointer (some ⟨bn, 0, none⟩)] (cutK k s (sz : Int)) wq F lb d l.most vr { l.ch with size := sz } l.dn k (hLr.below hbq) (enters_of Tryz.func155 (by kernel_rfl) rfl) (cutC_any bl bn lb d l.most F vr { l.ch with size := sz } l.dn k s (by omega) (by omega) wq (hLr.below hbq) (box_below HX1.out hbq) (box_below HX2.out hbq) nbl nbn)
     obtain ⟨P, HP9⟩ : ∃ P, Hid (stp l.dn k (cutK k s (sz : Int)) = P) := ⟨_, rfl⟩
     simp only [HP9.out] at hst9
     rw [HP9.out] at hfin
     obtain ⟨en, dn2, k2⟩ := P
     dsimp only at hst9 hfin
     simp only [Prod.mk.injEq] at hfin
     obtain ⟨g1, g2, g3, g4⟩ := hfin
     have hmf : ∀ (fn : Fn) (first cap : Array Value) (w : World), (Instr.makeFunc fn first cap).run Tryz.prog w = .ok (.func fn first cap) w := fun _ _ _ _ => rfl
     have hdone : ∀ wq w9, Below wr.heap.size wr wq → Lp wq F lb d l.most vr { l.ch with size := sz } dn2 k2 w9 → Lgp w F H lb d ⟨l.most, l.recs ++ rs, { l.ch with size := sz }, dn2⟩ k2 w9 := fun wq w9 hbq hp =>
      Lgp.next HK.out (fun i hi => Or.inl hi) HH.out (Lgp.from hbq (LogAt.stepd (HL.out.below hbq) (hRcr.keep (S := fun _ => False) (Keep.ofBelow hbq) (fun _ _ h => h) (fun _ h => h)) hp))
     subst eR bR lR kR
     clear HRy HRn HSc HEq hR1 hro hrd0 e3 e4 e5
     by_cases h0 : en = 0
     ·subst h0
      go_wp2_with (first
       | (go_at_call 154; refine hrec.mono ?_; rintro e w8 ⟨⟨vq, rfl⟩, hb8⟩; have ql8 := box_cell (box_below HX1.out hb8))
       | (go_at_call 117; refine ((hst9 w8 hb8).mono (fun e w' h => And.intro (h.1.elim (fun k => k.2) (fun k => absurd rfl k.1)) h.2 : ∀ e w', _ → (e = .returned (.tuple #[]) ∧ _))).mono ?_; rintro e w9 ⟨rfl, hp⟩))
      go_ret
      exact ⟨Or.inl ⟨rfl, rfl⟩, hdone w8 w9 hb8 hp⟩
     ·go_wp2_with (first
       | (go_at_call 154; refine hrec.mono ?_; rintro e w8 ⟨⟨vq, rfl⟩, hb8⟩; have ql8 := box_cell (box_below HX1.out hb8))
       | (go_at_call 117; refine ((hst9 w8 hb8).mono (fun e w' h => And.intro (h.1.elim (fun k => absurd k.1 h0) (fun k => k.2)) h.2 : ∀ e w', _ → (e = .panicked (gaveS en) ∧ _))).mono ?_; rintro e w9 ⟨rfl, hp⟩))
      exact ⟨rfl, gsb_no h0 rfl, hdone w8 w9 hb8 hp⟩
    | some r =>
     obtain ⟨hr1, hr2, hr3⟩ := recO_len hro
     have hbr := hr3 hrd0.bytes
     rw [hrd0.len] at hr1
     have hR1 : ∀ e, Rec1 wr (xs.drop sz) e = ∃ a' c', e = .returned (.tuple #[.slice a' r.length c', .bool true]) ∧ Rd wr a' r.length c' r := fun e => by unfold Rec1; rw [hro]
     simp only [hR1] at hrec
     have hsc := HSc.out.symm.trans (scanF_some hdl hro)
     rw [List.drop_drop] at hsc
     obtain ⟨M, HM⟩ : ∃ M, Hid (r.length = M) := ⟨_, rfl⟩
     rw [HM.out] at hsc hr1 hr2 hrec
     obtain ⟨SQ, HSQ⟩ : ∃ SQ, Hid (scanF f2 (xs.drop (sz + (8 + M))) = SQ) := ⟨_, rfl⟩
     rw [HSQ.out] at hsc
     obtain ⟨R2, n2, WH2⟩ := SQ
     simp only [Prod.mk.injEq] at hsc
     obtain ⟨e1, e2, e3⟩ := hsc
     subst e1 e2 e3
     clear HSc hro hR1 hdl hrd0 HRy HRn
     go_upto_region 10 with (first
      | (go_at_call 154; refine hrec.mono ?_; rintro e w8 ⟨⟨a8, c8, rfl, r8⟩, hb8⟩))
     refine wp_region_lx (fun w' => w'.cell? ⟨bl, 0, none⟩ = some (.pointer (some ⟨lb, 0, none⟩)) ∧ w'.cell? ⟨lb, 2, none⟩ = some vr) [11] 12 (by kernel_rfl) (by kernel_rfl) ?_
     have hb8d : Below wr.heap.size wr w8.drew := hb8.drew
     clear hrec hb8 q5 ql
     generalize w8.drew = Y at *
     have hLY := HL.out.below hb8d
     have hLDY := hLr.below hb8d
     have hRcY := hRcr.keep (S := fun _ => False) (H' := H1) (Keep.ofBelow hb8d) (fun _ _ h => h) (fun _ h => h)
     have hrY := r8.carry (Nat.le_refl _) hb8d
     have hX1 := box_below HX1.out hb8d
     have hX2 := box_below HX2.out hb8d
     have hRdY := HRd.out.carry (Nat.le_refl _) hb8d
     have hKY := HK.out.trans (Keep.ofBelow hb8d)
     have hsY := hKY.size
     have HSY : Y.cell? ⟨bl, 0, none⟩ = some (.pointer (some ⟨lb, 0, none⟩)) ∧ Y.cell? ⟨lb, 2, none⟩ = some vr := ⟨box_cell hX1, hLDY.c2⟩
     refine lx_r 0 (.pointer (some ⟨lb, 0, none⟩)) HSY ?_ (hv := fun w' hS => by have q := hS.1; first | (go_simp; rfl) | go_simp); simp only [lxa, lxb, lxc]
     refine lx_r 1 (.pointer (some ⟨lb, 0, none⟩)) HSY ?_ (hv := fun w' hS => by have q := hS.1; first | (go_simp; rfl) | go_simp); simp only [lxa, lxb, lxc]
     refine lx_r 2 (.pointer (some ⟨lb, 0, none⟩)) HSY ?_; simp only [lxa, lxb, lxc]
     refine lx_r 3 (.pointer (some ⟨lb, 2, none⟩)) HSY ?_; simp only [lxa, lxb, lxc]
     refine lx_r 4 vr HSY ?_ (hv := fun w' hS => by have q := hS.2; first | (go_simp; rfl) | go_simp); simp only [lxa, lxb, lxc]
     refine lx_r 5 _ HSY ?_; simp only [lxa, lxb, lxc]
     refine lx_one 6 (by kernel_rfl) (stepT_call 66 ?a6 rfl rfl rfl ?r6 ?_)
     case r6 => first | (go_simp; rfl) | go_simp
     refine (bcloneO a8 M c8 r Y hrY (by omega)).mono ?_
     rintro e w9 ⟨u, rfl, ou, hb9⟩
     obtain ⟨au, cu, rfl, _⟩ := Rd.ofOwn ou hbr
     obtain ⟨av, cv, w10, hrun, hk10, hL10, H9, hA9, hkE, hH9⟩ := add_rec hLY (by simp; omega) hLDY hRcY hb9 ou HM.out hbr
     have t9 : ∀ p x, Y.cell? p = some x → w9.cell? p = some x := fun p x hx => (hb9.cell (World.block_lt_of_cell? _ _ hx)).trans hx
     have HS9 := And.intro (t9 _ _ HSY.1) (t9 _ _ HSY.2)
     refine ⟨_, rfl, fun _ => HS9, ?_⟩
     simp only [lxa, lxb, lxc]
     have t10 : ∀ p x, w9.cell? p = some x → (w9.alloc (.cells #[.slice au M cu] 29)).cell? p = some x := fun p x hx => ((Keep.refl (fun _ => False) w9).alloc _).cell hx (fun h => h)
     refine lx_one 7 (by kernel_rfl) (stepT_val (w' := w9.alloc (.cells #[.slice au M cu] 29)) (.slice (some ⟨w9.heap.size, 0, none⟩) 1 1) rfl rfl rfl ?r7 (fun _ => And.intro (t10 _ _ HS9.1) (t10 _ _ HS9.2)) ?_)
     case r7 => first | (go_simp; rfl) | go_simp
     simp only [lxa, lxb, lxc]
     have nv1 : ¬ vr.ownBlock = some bl := fun hv => (HB.out bl (hRcr.own bl hv)).1 rfl
     have nv2 : ¬ vr.ownBlock = some lb := fun hv => HL.out.hl (hRcr.own lb hv)
     have HS10 := And.intro (hk10.cell (p := ⟨bl, 0, none⟩) HS9.1 nv1) (hk10.cell (p := ⟨lb, 2, none⟩) HS9.2 nv2)
     obtain ⟨L, HLn⟩ : ∃ L, Hid ((l.recs ++ rs).length + 1 = L) := ⟨_, rfl⟩
     dsimp only at hrun hA9 hkE
     rw [HLn.out] at hrun hA9 hkE
     refine lx_one 8 (by kernel_rfl) (stepT_val (w' := w10) (.slice av L cv) rfl rfl rfl (exec_appW rfl rfl rfl hrun) (fun _ => HS10) ?_)
     simp only [lxa, lxb, lxc]
     refine lx_one 9 (by kernel_rfl) (stepT_val (w' := w10) (.pointer (some ⟨lb, 0, none⟩)) rfl rfl rfl ?r9d (fun _ => HS10) ?_)
     case r9d => first | (go_simp; rfl) | go_simp
     simp only [lxa, lxb, lxc]
     refine lx_one 10 (by kernel_rfl) (stepT_val (w' := w10) (.pointer (some ⟨lb, 2, none⟩)) rfl rfl rfl ?r10d (fun _ => HS10) ?_)
     case r10d => first | (go_simp; rfl) | go_simp
     simp only [lxa, lxb, lxc]
     have p10 := hL10.c2
     have z10 := hL10.fz 2
     refine lx_one 11 (by kernel_rfl) (stepT_store (w' := w10.setCell ⟨lb, 2, none⟩ (.slice av L cv)) rfl rfl rfl ?r11 (fun h => by cases h) ?_)
     case r11 => first | (go_simp; rfl) | go_simp
     refine lx_nil (by kernel_rfl) ?_
     clear p10 z10 HS10 HS9 HSY t9 t10 hrun hL10 hk10 ou hb9 hRcY hLDY hLY hrY r8 hb8d hLr hRcr
     generalize w10.setCell ⟨lb, 2, none⟩ (.slice av L cv) = V at *
     have nS1 : ¬ (F bl ∨ H1 bl ∨ bl = lb) := fun h9 => h9.elim nbl (fun h9 => h9.elim (fun h9 => (HB.out bl h9).1 rfl) nbl2)
     have nS2 : ¬ (F bn ∨ H1 bn ∨ bn = lb) := fun h9 => h9.elim nbn (fun h9 => h9.elim (fun h9 => (HB.out bn h9).2.1 rfl) nbn2)
     have nS3 : ¬ (F gr ∨ H1 gr ∨ gr = lb) := fun h9 => by
      have h8 := hrowX _ rfl
      dsimp only at h8
      rcases h9 with h9 | h9 | h9
      ·have := hF _ h9; omega
      ·exact (HB.out gr h9).2.2 _ rfl rfl
      ·omega
     have hV1 := box_keep hX1 hkE nS1
     have hV2 := box_keep hX2 hkE nS2
     have hVR : Rd V (some ⟨gr, 0, none⟩) N c6 xs := hRdY.keep hkE (fun ad had => by cases had; exact nS3)
     obtain ⟨vV, hLV, _⟩ := hA9.ex
     dsimp only at hLV
     have qV5 : V.cell? ⟨lb, 5, none⟩ = some (.int .i64 (sz : Int)) := hLV.c5
     have zV5 := hLV.fz 5
     have qVl := box_cell hV1
     have hblY : bl < Y.heap.size := (Array.getElem?_eq_some_iff.1 hX1).1
     have hbnY : bn < Y.heap.size := (Array.getElem?_eq_some_iff.1 hX2).1
     have hgrY : gr < Y.heap.size := hRdY.blk (by omega) rfl
     have hA10 := hA9.size (sz + (8 + M)) ((sz : Int) + (8 + (M : Int))) (by omega)
     have hkV : Keep (fun i => i = lb) V (V.setCell ⟨lb, 5, none⟩ (.int .i64 ((sz : Int) + (8 + (M : Int))))) := (Keep.refl (fun i => i = lb) V).setCell (p := ⟨lb, 5, none⟩) rfl _
     have hKall : Keep (fun i => F i ∨ H i ∨ i = lb) w V := hKY.andThen hkE (fun i hi hs => by
      rcases hs with hs | hs | hs
      ·exact Or.inl hs
      ·rcases HH.out i hs with h9 | h9
       ·exact Or.inr (Or.inl h9)
       ·omega
      ·exact Or.inr (Or.inr hs))
     have HE9 := HEq.out
     clear hLV hA9 HEq
     go_wp2
     go_roundg (N - (sz + (8 + M)))
     case measure => omega
     case rel =>
      refine ⟨sz + (8 + M), f2, rs ++ [r], R2, n2, H9, by omega, by omega, by simp; omega, ?_, hKall.trans (hkV.mono (fun i e => Or.inr (Or.inr e))), fun i hi => ?_, fun i hi => ?_, box_keep hV1 hkV nbl2, box_keep hV2 hkV nbn2, hVR.keep hkV (fun ad had e => by cases had; exact nS3 (Or.inr (Or.inr e))), HSQ.out, ?_, ?_⟩
      ·show LogAt _ F H9 lb d ⟨l.most, l.recs ++ (rs ++ [r]), { l.ch with size := sz + (8 + M) }, l.dn⟩ k
       rw [← List.append_assoc]
       exact hA10
      ·rcases hH9 i hi with h9 | h9
       ·exact HH.out i h9
       ·exact Or.inr (Nat.le_trans hsY h9)
      ·rcases hH9 i hi with h9 | h9
       ·exact HB.out i h9
       ·exact ⟨by omega, by omega, fun ad had e => by cases had; dsimp only at e; omega⟩
      ·rw [← HE9.1]; simp
      ·have := HE9.2; omega
   ·obtain rfl : sz = N := by omega
    have hz1 : ¬ (sz : Int) < (sz : Int) := by omega
    have hsc := HSc.out.symm.trans (scanF_nil f (xs.drop sz) (by rw [List.length_drop, HN.out]; omega))
    simp only [Prod.mk.injEq] at hsc
    obtain ⟨e1, e2, e3⟩ := hsc
    subst e1 e2
    have hE2 := HEq.out
    rw [List.append_nil, Nat.add_zero] at hE2
    obtain ⟨e4, e5⟩ := hE2
    have hfin := HRy.out e3
    rw [← e4, ← e5] at hfin
    simp only [Prod.mk.injEq] at hfin
    obtain ⟨g1, g2, g3, g4⟩ := hfin
    subst eR bR lR kR
    clear HRy HRn HSc HEq e3 e4 e5
    go_wp2
    go_ret
    exact ⟨Or.inl ⟨rfl, rfl⟩, F, H1, HL.out, HK.out, fun i hi => Or.inl hi, HH.out⟩
 ·have hres : readSegR l s k (en, xs) = (en, false, l, k) := by unfold readSegR; rw [if_pos h0]
  have hx := HR.out.symm.trans hres
  simp only [Prod.mk.injEq] at hx
  obtain ⟨e1, e2, e3, e4⟩ := hx
  subst eR bR lR kR
  have e0 : ((en : Int) == 0) = false := by rw [beq_eq_false_iff_ne]; omega
  go_wp2_with (first
   | (go_at_call 129; refine (sask_no en _).mono ?_; rintro e w5 ⟨rfl, h5⟩; replace h5 := h5.symm; subst h5))
  exact ⟨rfl, gsb_no h0 rfl, Lgp.from hbw3 (Lgp.refl h3)⟩
end Go.Proofs.YtikkieaokfailaaGreatDoor
