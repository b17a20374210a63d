/- Texts of one seat, one behind the other: ShelfZ, PvSh, PvZb, PvSa, PvSb, PvZc, PvSd, PvZd, PvZe. -/
import Derived.Shelf.SlGeneric
import Derived.Shelf.SlIter.Nil
import Derived.Shelf.SortM.Plain
import Derived.Shelf.SortM.SortNone
import Derived.Ground.GgzProg
import Derived.Ground.SlgmProg
import Derived.Test.YtiplalbicibahaaGreatDoorProg
import Derived.Test.YtiplalbicibahaaGreatDoorM3
import Derived.Laws.AppendOwn
import Derived.Laws.OwnMore
/-
  DERIVED: THE SHELF's CONTRACTS AT THIS DUMP, IN PLAIN WORDS (tools/lay-plain.mjs out of 'ShelfSrcNow.lean', which tools/lay-shelf.mjs wrote): THE SAME DECLARATIONS UNDER THE SAME NAMES: 'import', 'namespace', 'open', 'def', 'theorem' AND NOTHING ELSE: no command of the shelf's: FOR A HAND-IN. Each laying: the table of numbers ('.._ren') and one theorem, a field a fact of the dump's own or the kernel's comparison; each contract: ONE APPLICATION.
-/
namespace Go.Proofs
open Go.Shelf
def Tryz.keysZ_ren : Go.Shelf.Ren := ⟨fun | 7 => 33 | 10 => 51 | n => n, fun | 23 => 52 | 26 => 9 | 3 => 68 | 28 => 66 | 0 => 0 | 27 => 65 | 33 => 62 | 4 => 4 | n => n, fun | n => n⟩
theorem Tryz.keysZ : Go.Proofs.SlLaysZ.n7 Tryz.prog Tryz.keysZ_ren := {
  mixed := by kernel_rfl
  f7 := ⟨Tryz.f33.name, by decide, Tryz.func33.trans (congrArg some (by kernel_rfl))⟩
  f10 := ⟨Tryz.f51.name, by decide, Tryz.func51.trans (congrArg some (by kernel_rfl))⟩
  t0 := Tryz.underlying0
  a0 := Tryz.isAgg0
  z0 := Tryz.sizeOf0
  v0 := Tryz.zeroValue0
  t4 := Tryz.underlying4
  a4 := Tryz.isAgg4
  z4 := Tryz.sizeOf4
  v4 := Tryz.zeroValue4
  t23 := Tryz.underlying52
  a23 := Tryz.isAgg52
  z23 := Tryz.sizeOf52
  v23 := Tryz.zeroValue52
  t26 := Tryz.underlying9
  a26 := Tryz.isAgg9
  z26 := Tryz.sizeOf9
  v26 := Tryz.zeroValue9
  t27 := Tryz.underlying65
  a27 := Tryz.isAgg65
  z27 := Tryz.sizeOf65
  v27 := Tryz.zeroValue65
  t28 := Tryz.underlying66
  a28 := Tryz.isAgg66
  z28 := Tryz.sizeOf66
  v28 := Tryz.zeroValue66
  t33 := Tryz.underlying62
  a33 := Tryz.isAgg62
  z33 := Tryz.sizeOf62
  v33 := Tryz.zeroValue62 }
def Tryz.sortedZ_ren : Go.Shelf.Ren := ⟨fun | 6 => 32 | 8 => 49 | 9 => 50 | 11 => 62 | 13 => 64 | 12 => 63 | 23 => 83 | 24 => 84 | 14 => 74 | 15 => 75 | 16 => 76 | 17 => 77 | 18 => 78 | 19 => 79 | 20 => 80 | 21 => 81 | 22 => 82 | 25 => 90 | 26 => 91 | 27 => 92 | 28 => 93 | 29 => 94 | 30 => 95 | 31 => 99 | n => n, fun | 26 => 9 | 28 => 66 | 24 => 32 | 0 => 0 | 3 => 3 | 37 => 101 | 48 => 123 | 50 => 125 | 4 => 4 | 40 => 116 | 39 => 115 | 45 => 78 | 5 => 5 | 9 => 9 | 51 => 133 | 55 => 137 | 57 => 141 | 58 => 142 | 33 => 62 | n => n, fun | n => n⟩
theorem Tryz.sortedZ : Go.Proofs.SlLaysZ.n6 Tryz.prog Tryz.sortedZ_ren := {
  mixed := by kernel_rfl
  f6 := ⟨Tryz.f32.name, by decide, Tryz.func32.trans (congrArg some (by kernel_rfl))⟩
  f8 := ⟨Tryz.f49.name, by decide, Tryz.func49.trans (congrArg some (by kernel_rfl))⟩
  f11 := ⟨Tryz.f62.name, by decide, Tryz.func62.trans (congrArg some (by kernel_rfl))⟩
  t0 := Tryz.underlying0
  a0 := Tryz.isAgg0
  z0 := Tryz.sizeOf0
  v0 := Tryz.zeroValue0
  t24 := Tryz.underlying32
  a24 := Tryz.isAgg32
  z24 := Tryz.sizeOf32
  v24 := Tryz.zeroValue32
  t26 := Tryz.underlying9
  a26 := Tryz.isAgg9
  z26 := Tryz.sizeOf9
  v26 := Tryz.zeroValue9
  t28 := Tryz.underlying66
  a28 := Tryz.isAgg66
  z28 := Tryz.sizeOf66
  v28 := Tryz.zeroValue66
  i26 := by kernel_rfl }
def Tryz.sortZ_ren : Go.Shelf.Ren := ⟨fun | 6 => 50 | 8 => 64 | 9 => 63 | 19 => 83 | 20 => 84 | 21 => 74 | 22 => 75 | 23 => 76 | 24 => 77 | 25 => 78 | 26 => 79 | 27 => 80 | 28 => 81 | 29 => 82 | 36 => 90 | 31 => 91 | 32 => 92 | 37 => 93 | 38 => 94 | 39 => 95 | 41 => 99 | n => n, fun | 27 => 32 | 29 => 9 | 3 => 3 | 32 => 101 | 26 => 32 | 0 => 0 | 44 => 123 | 46 => 125 | 4 => 4 | 36 => 116 | 35 => 115 | 41 => 78 | 5 => 5 | 9 => 9 | 53 => 133 | 57 => 137 | 63 => 141 | 64 => 142 | n => n, fun | n => n⟩
theorem Tryz.sortZ : Go.Proofs.SlLaysM.n6 Tryz.prog Tryz.sortZ_ren := {
  mixed := by kernel_rfl
  f6 := ⟨Tryz.f50.name, by decide, Tryz.func50.trans (congrArg some (by kernel_rfl))⟩
  f8 := Tryz.func64.trans (congrArg some (by kernel_rfl))
  f9 := ⟨Tryz.f63.name, by decide, Tryz.func63.trans (congrArg some (by kernel_rfl))⟩
  f19 := Tryz.func83.trans (congrArg some (by kernel_rfl))
  f20 := Tryz.func84.trans (congrArg some (by kernel_rfl))
  f21 := ⟨Tryz.f74.name, by decide, Tryz.func74.trans (congrArg some (by kernel_rfl))⟩
  f22 := ⟨Tryz.f75.name, by decide, Tryz.func75.trans (congrArg some (by kernel_rfl))⟩
  f23 := ⟨Tryz.f76.name, by decide, Tryz.func76.trans (congrArg some (by kernel_rfl))⟩
  f24 := ⟨Tryz.f77.name, by decide, Tryz.func77.trans (congrArg some (by kernel_rfl))⟩
  f25 := ⟨Tryz.f78.name, by decide, Tryz.func78.trans (congrArg some (by kernel_rfl))⟩
  f26 := ⟨Tryz.f79.name, by decide, Tryz.func79.trans (congrArg some (by kernel_rfl))⟩
  f27 := ⟨Tryz.f80.name, by decide, Tryz.func80.trans (congrArg some (by kernel_rfl))⟩
  f28 := ⟨Tryz.f81.name, by decide, Tryz.func81.trans (congrArg some (by kernel_rfl))⟩
  f29 := ⟨Tryz.f82.name, by decide, Tryz.func82.trans (congrArg some (by kernel_rfl))⟩
  f31 := Tryz.func91.trans (congrArg some (by kernel_rfl))
  f32 := Tryz.func92.trans (congrArg some (by kernel_rfl))
  f36 := ⟨Tryz.f90.name, by decide, Tryz.func90.trans (congrArg some (by kernel_rfl))⟩
  f37 := ⟨Tryz.f93.name, by decide, Tryz.func93.trans (congrArg some (by kernel_rfl))⟩
  f38 := ⟨Tryz.f94.name, by decide, Tryz.func94.trans (congrArg some (by kernel_rfl))⟩
  f39 := ⟨Tryz.f95.name, by decide, Tryz.func95.trans (congrArg some (by kernel_rfl))⟩
  f41 := ⟨Tryz.f99.name, by decide, Tryz.func99.trans (congrArg some (by kernel_rfl))⟩
  t0 := Tryz.underlying0
  a0 := Tryz.isAgg0
  z0 := Tryz.sizeOf0
  v0 := Tryz.zeroValue0
  t3 := Tryz.underlying3
  a3 := Tryz.isAgg3
  z3 := Tryz.sizeOf3
  v3 := Tryz.zeroValue3
  t4 := Tryz.underlying4
  a4 := Tryz.isAgg4
  z4 := Tryz.sizeOf4
  v4 := Tryz.zeroValue4
  t5 := Tryz.underlying5
  a5 := Tryz.isAgg5
  z5 := Tryz.sizeOf5
  v5 := Tryz.zeroValue5
  t9 := Tryz.underlying9
  a9 := Tryz.isAgg9
  z9 := Tryz.sizeOf9
  v9 := Tryz.zeroValue9
  t26 := Tryz.underlying32
  a26 := Tryz.isAgg32
  z26 := Tryz.sizeOf32
  v26 := Tryz.zeroValue32
  t27 := Tryz.underlying32
  a27 := Tryz.isAgg32
  z27 := Tryz.sizeOf32
  v27 := Tryz.zeroValue32
  t29 := Tryz.underlying9
  a29 := Tryz.isAgg9
  z29 := Tryz.sizeOf9
  v29 := Tryz.zeroValue9
  t32 := Tryz.underlying101
  a32 := Tryz.isAgg101
  z32 := Tryz.sizeOf101
  v32 := Tryz.zeroValue101
  t35 := Tryz.underlying115
  a35 := Tryz.isAgg115
  z35 := Tryz.sizeOf115
  v35 := Tryz.zeroValue115
  t36 := Tryz.underlying116
  a36 := Tryz.isAgg116
  z36 := Tryz.sizeOf116
  v36 := Tryz.zeroValue116
  t41 := Tryz.underlying78
  a41 := Tryz.isAgg78
  z41 := Tryz.sizeOf78
  v41 := Tryz.zeroValue78
  t44 := Tryz.underlying123
  a44 := Tryz.isAgg123
  z44 := Tryz.sizeOf123
  v44 := Tryz.zeroValue123
  t46 := Tryz.underlying125
  a46 := Tryz.isAgg125
  z46 := Tryz.sizeOf125
  v46 := Tryz.zeroValue125
  t53 := Tryz.underlying133
  a53 := Tryz.isAgg133
  z53 := Tryz.sizeOf133
  v53 := Tryz.zeroValue133
  t57 := Tryz.underlying137
  a57 := Tryz.isAgg137
  z57 := Tryz.sizeOf137
  v57 := Tryz.zeroValue137
  t63 := Tryz.underlying141
  a63 := Tryz.isAgg141
  z63 := Tryz.sizeOf141
  v63 := Tryz.zeroValue141
  t64 := Tryz.underlying142
  a64 := Tryz.isAgg142
  z64 := Tryz.sizeOf142
  v64 := Tryz.zeroValue142 }
end Go.Proofs

/- privacy: the names of the lists, sorted. -/
set_option maxRecDepth 100000
namespace Go.Proofs.YtiplalbicibahaaGreatDoor
open Go.RowKit Go.Shelf Go.Sort Go.Maps Go.Joins

theorem sortsZ (m : Nat) : AnyZ.SortsIn Tryz.prog Tryz.sortedZ_ren Fence.wide m :=
  ⟨fun blk off cap ss W hH hblk hsz => callsIn_wide.2 (AnyM.slices_Sort_string Tryz.sortZ blk off cap ss W hH hblk hsz),
   fun p cap W => callsIn_wide.2 (AnyM.slices_Sort_string_none Tryz.sortZ p cap W)⟩
theorem keys_any (mb : Option Nat) (W : World) : CallsIn Fence.wide 5 Tryz.prog 33 #[.map mb] W fun e w' => e = .returned (.func (.func 51) #[] #[.pointer (some ⟨W.heap.size, 0, none⟩)]) ∧ w' = W.alloc (.cells #[.map mb] 52) :=
  AnyZ.keys_in Tryz.keysZ Fence.wide 5 trivial rfl mb W
set_option maxHeartbeats 1000000 in
theorem sorted_any {H : Type} (b nn : Nat) (D0 : DataW H) (R : Value → Option (DataW H × List MemPlace)) (w : World) (hown : w.ownsMap Tryz.prog 9 R b nn D0) (hmax : Maps.size D0 ≤ maxLen) (hbytes : Maps.size D0 * 16 ≤ 140737488355328) :
    CallsIn Fence.wide 5 Tryz.prog 32 #[.func (.func 51) #[] #[.pointer (some ⟨w.heap.size, 0, none⟩)]] (w.alloc (.cells #[.map (some b)] 52)) fun e w' => ∃ (v : Value) (ss : List (List UInt8)), e = .returned v ∧ ss.Perm (strKeys D0) ∧
      w'.ownsRow (w.alloc (.cells #[.map (some b)] 52)).heap.size 9 1 v ss.length ((ss.mergeSort (fun x y => decide (x ≤ y))).map encStr) ∧ (v = .slice none 0 0 ↔ ss = []) ∧ Below (w.alloc (.cells #[.map (some b)] 52)).heap.size (w.alloc (.cells #[.map (some b)] 52)) w' := by
  have hbl := hown.lt
  have hseq : SeqGives Fence.wide 2 Tryz.prog 51 #[.pointer (some ⟨w.heap.size, 0, none⟩)] encStr (fun ss => ss.Perm (strKeys D0)) (Maps.size D0) (w.alloc (.cells #[.map (some b)] 52)) :=
    AnyZ.keys_gives (ρ := Tryz.keysZ_ren) { Tryz.keysZ with } Fence.wide _ trivial rfl (by omega) w.heap.size b nn D0 _ (by simp) (by simp) (by
      obtain ⟨es, clock, hb, Ft, hs, hD⟩ := hown
      exact ⟨es, clock, (Below.heap_alloc _ _ b hbl).trans hb, Ft, hs, hD⟩)
  exact AnyZ.sorted_in Tryz.sortedZ Fence.wide 5 trivial trivial trivial trivial rfl (by omega) (sortsZ _) (enters_of Tryz.func50 (by kernel_rfl) rfl) 51 #[.pointer (some ⟨w.heap.size, 0, none⟩)] trivial (enters_of Tryz.func51 (by kernel_rfl) rfl) _ _ hmax hbytes _ hseq

def sortK (ks : List By) : List By := ks.mergeSort (fun x y => decide (x ≤ y))
theorem names_keys (mb : Nat) (w : World) : Calls Tryz.prog 33 #[.map (some mb)] w fun e w' => e = .returned (.func (.func 51) #[] #[.pointer (some ⟨w.heap.size, 0, none⟩)]) ∧ w' = w.alloc (.cells #[.map (some mb)] 52) := callsIn_wide.1 (keys_any (some mb) w)
theorem names_sorted {w : World} {F : Nat → Prop} {q mb : Nat} {m : By → Option Rw} {P : Pl} (h : LsM w F q mb m P) (hn : P.ks.length ≤ 1000000) :
    Calls Tryz.prog 32 #[.func (.func 51) #[] #[.pointer (some ⟨w.heap.size, 0, none⟩)]] (w.alloc (.cells #[.map (some mb)] 52)) fun e w' => ∃ v, e = .returned v ∧
      w'.ownsRow (w.heap.size + 1) 9 1 v P.ks.length (tc (sortK P.ks)) ∧ Below (w.heap.size + 1) (w.alloc (.cells #[.map (some mb)] 52)) w' := by
  obtain ⟨D, hown, hperm, hsz⟩ := h.map.keys P.ks h.nd (fun s => by rw [(h.tie s).isSome]; exact h.mem s)
  refine (callsIn_wide.1 (sorted_any mb _ D Rs w hown (by unfold maxLen; omega) (by omega))).mono ?_
  rintro e w2 ⟨v, ss, rfl, hS, hrow, hnil, hb⟩
  have hp2 : ss.Perm P.ks := hS.trans hperm.symm
  have e1 : ss.mergeSort (fun x y => decide (x ≤ y)) = sortK P.ks := mergeSort_of_perm hp2
  rw [e1, hp2.length_eq] at hrow
  have hh : (w.alloc (.cells #[.map (some mb)] 52)).heap.size = w.heap.size + 1 := by simp
  rw [hh] at hrow hb
  refine ⟨v, rfl, ?_, hb⟩
  have e3 : tc (sortK P.ks) = (sortK P.ks).map encStr := by
    simp [tc, ba]
  rw [e3]
  exact hrow
end Go.Proofs.YtiplalbicibahaaGreatDoor

/- privacy: rising lists of names (pure). -/
set_option maxRecDepth 100000
namespace Go.Proofs.YtiplalbicibahaaGreatDoor
open Go.RowKit Go.Joins Go.Shelf

theorem lt_irr (a : By) : ¬ a < a := fun h => List.lt_irrefl _ h
theorem lt_tr {a b c : By} (h : a < b) (k : b < c) : a < c := List.lt_trans h k
theorem lt_tri {a b : By} (h : ¬ a < b) (h2 : a ≠ b) : b < a := by
  by_cases hc : b < a
  · exact hc
  · exact absurd (List.le_antisymm (List.not_lt.1 hc) (List.not_lt.1 h)) h2
def Asc (ns : List By) : Prop := ns.Pairwise fun x y => x < y
theorem asc_nodup {ns : List By} (h : Asc ns) : ns.Nodup := List.Pairwise.imp (fun {a b} (hl : a < b) (e : a = b) => lt_irr b (by rw [e] at hl; exact hl)) h
theorem asc_sortK {ks : List By} (h : ks.Nodup) : Asc (sortK ks) := by
  have hp : (sortK ks).Pairwise fun x y => decide (x ≤ y) = true := List.pairwise_mergeSort (fun a b c h1 h2 => by
    simp only [decide_eq_true_eq] at *
    exact List.le_trans h1 h2) (fun a b => by
    simp only [Bool.or_eq_true, decide_eq_true_eq]
    exact List.le_total a b) ks
  have hn : (sortK ks).Nodup := (List.mergeSort_perm ks _).nodup_iff.2 h
  refine (hp.and hn).imp fun ⟨h1, h2⟩ => ?_
  simp only [decide_eq_true_eq] at h1
  exact lt_tri (List.not_lt.2 h1) (fun e => h2 e.symm)
theorem sortK_mem {ks : List By} {s : By} : s ∈ sortK ks ↔ s ∈ ks := List.mem_mergeSort
theorem asc_ext : ∀ {ns ms : List By}, Asc ns → Asc ms → (∀ x, x ∈ ns ↔ x ∈ ms) → ns = ms
  | [], [], _, _, _ => rfl
  | [], y :: r, _, _, h => by have := (h y).2 (List.mem_cons_self ..); cases this
  | x :: r, [], _, _, h => by have := (h x).1 (List.mem_cons_self ..); cases this
  | x :: r, y :: t, h1, h2, h => by
    obtain ⟨a1, a2⟩ := List.pairwise_cons.1 h1
    obtain ⟨b1, b2⟩ := List.pairwise_cons.1 h2
    have hxy : x = y := by
      rcases List.mem_cons.1 ((h x).1 (List.mem_cons_self ..)) with e | e
      · exact e
      · rcases List.mem_cons.1 ((h y).2 (List.mem_cons_self ..)) with e2 | e2
        · exact e2.symm
        · exact absurd (lt_tr (a1 y e2) (b1 x e)) (lt_irr _)
    subst hxy
    rw [asc_ext a2 b2 (fun z => ⟨fun hz => ?_, fun hz => ?_⟩)]
    · rcases List.mem_cons.1 ((h z).1 (List.mem_cons_of_mem _ hz)) with e | e
      · subst e; exact absurd (a1 _ hz) (lt_irr _)
      · exact e
    · rcases List.mem_cons.1 ((h z).2 (List.mem_cons_of_mem _ hz)) with e | e
      · subst e; exact absurd (b1 _ hz) (lt_irr _)
      · exact e
/-- The names ahead of s are below it, those behind are not. -/
theorem at_below : ∀ (ns : List By) (s : By), ∀ x ∈ ns.take (atK ns s), x < s
  | [], _, x, hx => by simp at hx
  | n :: r, s, x, hx => by
    unfold atK at hx
    rw [List.takeWhile_cons] at hx
    cases h : ltB n s with
    | false => rw [h] at hx; simp at hx
    | true =>
      rw [h] at hx
      simp only [if_true, List.length_cons, List.take_succ_cons, List.mem_cons] at hx
      rcases hx with rfl | hx
      · exact of_decide_eq_true h
      · exact at_below r s x hx
theorem at_above : ∀ {ns : List By} (s : By), Asc ns → ∀ x ∈ ns.drop (atK ns s), ¬ x < s
  | [], _, _, x, hx => by simp at hx
  | n :: r, s, h0, x, hx => by
    obtain ⟨a1, a2⟩ := List.pairwise_cons.1 h0
    unfold atK at hx
    rw [List.takeWhile_cons] at hx
    cases h : ltB n s with
    | false =>
      rw [h] at hx
      have hn : ¬ n < s := of_decide_eq_false h
      simp only [Bool.false_eq_true, if_false, List.length_nil, List.drop_zero, List.mem_cons] at hx
      rcases hx with rfl | hx
      · exact hn
      · exact fun hl => hn (lt_tr (a1 x hx) hl)
    | true =>
      rw [h] at hx
      simp only [if_true, List.length_cons, List.drop_succ_cons] at hx
      exact at_above s a2 x hx
theorem at_le (ns : List By) (s : By) : atK ns s ≤ ns.length := by
  unfold atK
  exact (List.takeWhile_sublist _).length_le
theorem at_head {ns : List By} {s : By} (hb : atB ns s = true) : atK ns s < ns.length ∧ ns[atK ns s]? = some s := by
  unfold atB at hb
  simp only [Bool.and_eq_true, decide_eq_true_eq, beq_iff_eq] at hb
  obtain ⟨h1, h2⟩ := hb
  refine ⟨h1, ?_⟩
  rw [List.getD_eq_getElem?_getD, List.getElem?_eq_getElem h1] at h2
  rw [List.getElem?_eq_getElem h1]
  exact congrArg some h2
theorem at_mem {ns : List By} {s : By} (h : Asc ns) : atB ns s = true ↔ s ∈ ns := by
  constructor
  · intro hb
    exact List.mem_of_getElem? (at_head hb).2
  · intro hs
    have hs2 := hs
    rw [← List.take_append_drop (atK ns s) ns] at hs2
    rcases List.mem_append.1 hs2 with e | e
    · exact absurd (at_below ns s s e) (lt_irr _)
    · have hlt : atK ns s < ns.length := by
        by_cases hl : atK ns s < ns.length
        · exact hl
        · rw [List.drop_eq_nil_of_le (by omega)] at e; cases e
      rw [List.drop_eq_getElem_cons hlt] at e
      have hx : ns[atK ns s] = s := by
        rcases List.mem_cons.1 e with e2 | e2
        · exact e2.symm
        · have hp : (ns.drop (atK ns s)).Pairwise fun x y => x < y := h.sublist (List.drop_sublist _ _)
          rw [List.drop_eq_getElem_cons hlt] at hp
          have := (List.pairwise_cons.1 hp).1 s e2
          exact absurd this (at_above s h _ (by rw [List.drop_eq_getElem_cons hlt]; exact List.mem_cons_self ..))
      unfold atB
      rw [decide_eq_true hlt, Bool.true_and, List.getD_eq_getElem?_getD, List.getElem?_eq_getElem hlt, Option.getD_some, hx]
      exact beq_self_eq_true s
/-- One name more. -/
theorem asc_put {ns : List By} {s : By} (h : Asc ns) (hs : s ∉ ns) : Asc (ns.take (atK ns s) ++ s :: ns.drop (atK ns s)) := by
  refine List.pairwise_append.2 ⟨h.sublist (List.take_sublist _ _), List.pairwise_cons.2 ⟨fun x hx => ?_, h.sublist (List.drop_sublist _ _)⟩, fun x hx y hy => ?_⟩
  · exact lt_tri (at_above s h x hx) (fun e => hs (by rw [← e]; exact List.mem_of_mem_drop hx))
  · rcases List.mem_cons.1 hy with e | e
    · rw [e]; exact at_below ns s x hx
    · exact lt_tr (at_below ns s x hx) (lt_tri (at_above s h y e) (fun e2 => hs (by rw [← e2]; exact List.mem_of_mem_drop e)))
theorem asc_drop {ns : List By} (h : Asc ns) (k : Nat) : Asc (ns.take k ++ ns.drop (k + 1)) := by
  have hp := h
  rw [← List.take_append_drop k ns] at hp
  refine hp.sublist (List.Sublist.append (List.Sublist.refl _) ?_)
  rw [← List.drop_drop]
  exact List.drop_sublist _ _
theorem sort_put {ks : List By} {s : By} (h : ks.Nodup) (hs : s ∉ ks) (ks' : List By) (hn : ks'.Nodup) (hm : ∀ x, x ∈ ks' ↔ x = s ∨ x ∈ ks) : sortK ks' = (sortK ks).take (atK (sortK ks) s) ++ s :: (sortK ks).drop (atK (sortK ks) s) := by
  refine asc_ext (asc_sortK hn) (asc_put (asc_sortK h) (fun e => hs (sortK_mem.1 e))) (fun x => ?_)
  rw [sortK_mem, hm, List.mem_append, List.mem_cons]
  have : x ∈ ks ↔ x ∈ (sortK ks).take (atK (sortK ks) s) ∨ x ∈ (sortK ks).drop (atK (sortK ks) s) := by
    rw [← List.mem_append, List.take_append_drop, sortK_mem]
  rw [this]
  constructor
  · rintro (e | e | e)
    · exact Or.inr (Or.inl e)
    · exact Or.inl e
    · exact Or.inr (Or.inr e)
  · rintro (e | e | e)
    · exact Or.inr (Or.inl e)
    · exact Or.inl e
    · exact Or.inr (Or.inr e)
end Go.Proofs.YtiplalbicibahaaGreatDoor

/- privacy: appends to rows of one's own (where the new row lies); a shelf, told. -/
set_option maxRecDepth 100000
namespace Go.Proofs.YtiplalbicibahaaGreatDoor
open Go.RowKit Go.Joins Go.Shelf

theorem app_whereG (t e : TypeId) (z : Value) (bytes : Nat) (ht : Tryz.prog.underlying t = some (.slice e)) (hif : (Tryz.prog.info? e).map (fun i => (i.zero, i.size, i.bytes)) = some (some z, 1, bytes)) (hby : bytes ≤ 100) {w : World} {base : Nat} {v : Value} {n : Nat} {xs : List Value} (hown : w.ownsRow base e 1 v n xs) {ad : Addr} {c : Nat} {u : Value} (hu : u.oneCell' = true) (hr : ∀ j x, [u][j]? = some x → w.cell? (ad.add j) = some x) (hb : n ≤ 1000000) {ty : TypeId} {v' : Value} {w' : World}
    (hrun : (Builtin.append_ #[t, t] ty #[v, .slice (some ad) 1 c]).run Tryz.prog w = .ok v' w') : v'.ownBlock = v.ownBlock ∨ v'.ownBlock = some w.heap.size := by
  obtain ⟨i0, hi, hz0, hz1, hz2⟩ := info_parts hif
  have hl : [u].length = 1 * i0.size := by rw [hz1]; rfl
  have hb2 : (n + 1) * i0.bytes ≤ (1000000 + 1) * 100 := Nat.mul_le_mul (by omega) (by omega)
  rcases hown.2 with ⟨rfl, rfl⟩ | ⟨g, cap, cur, rfl, hbg, hg, hnc, hcm, hcs, htake⟩
  · right
    have hr2 := run_append_nil (P := Tryz.prog) w t ty e i0 z ht hi hz0 ad 1 c [u] hl hr (by omega) (by omega) (by omega)
    rw [hr2] at hrun
    injection hrun with e _
    rw [← e]; rfl
  · by_cases hroom : n + 1 ≤ cap
    · left
      have hr2 := run_append_room (P := Tryz.prog) w t ty e i0 ht hi g n cap cur hg ad 1 c [u] hl hr (by simpa using hu) hroom (by rw [hl, hcs, hz1]; omega)
      rw [hr2] at hrun
      injection hrun with e _
      rw [← e]; rfl
    · right
      have hr2 := run_append_grow (P := Tryz.prog) w t ty e i0 z ht hi hz0 ⟨g, 0, none⟩ n cap xs (by rw [hown.1, hz1]) (hown.cells (g := g) rfl) ad 1 c [u] hl hr (by omega) (by omega) (growslice_fits (by omega) (by omega))
      rw [hr2] at hrun
      injection hrun with e _
      rw [← e]; rfl

theorem run_appG (t e : TypeId) (z : Value) (bytes : Nat) (ht : Tryz.prog.underlying t = some (.slice e)) (hif : (Tryz.prog.info? e).map (fun i => (i.zero, i.size, i.bytes)) = some (some z, 1, bytes)) (hby : bytes ≤ 100) (hzs : z.cells.size = 1) {w : World} (ty : TypeId) {base : Nat} {v : Value} {n : Nat} {xs : List Value} (hown : w.ownsRow base e 1 v n xs) (u : Value) (hu : u.oneCell' = true) (hn : n ≤ 1000000) (hbase : base ≤ w.heap.size) :
    ∃ v' w', (Builtin.append_ #[t, t] ty #[v, .slice (some ⟨w.heap.size, 0, none⟩) 1 1]).run Tryz.prog (w.alloc (.cells #[u] e)) = .ok v' w' ∧ w'.ownsRow base e 1 v' (n + 1) (xs ++ [u]) ∧ Keep (fun k => v.ownBlock = some k) w w' ∧ (v'.ownBlock = v.ownBlock ∨ ∃ g, v'.ownBlock = some g ∧ w.heap.size ≤ g) ∧ v' ≠ .slice none 0 0 := by
  obtain ⟨i0, hi, hz0, hz1, hz2⟩ := info_parts hif
  have hk0 : Keep (fun k => v.ownBlock = some k) w (w.alloc (.cells #[u] e)) := (Keep.refl _ _).alloc _
  have hown1 := own_keep (S := fun _ => False) hown ((Keep.refl (fun _ => False) w).alloc (.cells #[u] e)) (fun _ _ h => h)
  have hnw : ∀ j x, [u][j]? = some x → (w.alloc (.cells #[u] e)).cell? ((⟨w.heap.size, 0, none⟩ : Addr).add j) = some x := fun j x hx => by
    rw [add_flat, Nat.zero_add, cell_of_block (alloc_at w (.cells #[u] e))]
    simpa using hx
  have hb2 : (n + 1) * bytes ≤ (1000000 + 1) * 100 := Nat.mul_le_mul (by omega) hby
  obtain ⟨v', w', hrun, h2, h3, h5⟩ := run_append_own (P := Tryz.prog) (w.alloc (.cells #[u] e)) base t ty e i0 z 1 bytes ht hi hz0 hz1 hz2 hzs (by decide) v n xs hown1 ⟨w.heap.size, 0, none⟩ 1 1 [u] (by simp) hnw (by simpa using hu) (by unfold maxLen; omega) (by omega) (by simp; omega)
  have h4 := app_whereG t e z bytes ht hif hby hown1 hu hnw hn hrun
  refine ⟨v', w', hrun, h2, hk0.trans (Keep.ofGrown h3), ?_, fun e => by have := h5.1 e; omega⟩
  rcases h4 with h4 | h4
  · exact Or.inl h4
  · exact Or.inr ⟨_, h4, by simp⟩

theorem wp_appG (t e : TypeId) (z : Value) (bytes : Nat) (ht : Tryz.prog.underlying t = some (.slice e)) (hif : (Tryz.prog.info? e).map (fun i => (i.zero, i.size, i.bytes)) = some (some z, 1, bytes)) (hby : bytes ≤ 100) (hzs : z.cells.size = 1) {w : World} {ops : Array Oper} {rest : List Oper} {o : Oper} {a : Act} {Q : Exit → Act → World → Prop} (hgd : o.guard = none) (s x : Operand)
    (ho : o.op = .call { callee := .builtin .append, args := #[s, x], argTypes := #[t, t] })
    (base : Nat) (v : Value) (n : Nat) (xs : List Value) (hs : a.eval s = v) (hown : w.ownsRow base e 1 v n xs) (u : Value) (hu : u.oneCell' = true)
    (hx : a.eval x = .slice (some ⟨w.heap.size, 0, none⟩) 1 1) (hn : n ≤ 1000000) (hbase : base ≤ w.heap.size)
    (h : ∀ v' w', w'.ownsRow base e 1 v' (n + 1) (xs ++ [u]) → Keep (fun k => v.ownBlock = some k) w w' → (v'.ownBlock = v.ownBlock ∨ ∃ g, v'.ownBlock = some g ∧ w.heap.size ≤ g) → v' ≠ .slice none 0 0 → wpList Tryz.prog ops Q rest (a.put o.dst v') w') : wpList Tryz.prog ops Q (o :: rest) a (w.alloc (.cells #[u] e)) := by
  refine wpList_plain hgd fun K hK => ?_
  obtain ⟨v', w', hrun, h2, h3, h4, h5⟩ := run_appG t e z bytes ht hif hby hzs o.type hown u hu hn hbase
  unfold Oper.wp
  simp only [execOp, ho, resolve, invoke, builtin, Sem.run_bind, Sem.run_pure, Result.andThen_ok, List.map_toArray, List.map_cons, List.map_nil, hs, hx, hrun]
  exact hK _ _ (h v' w' h2 h3 h4 h5)


/-! ### a shelf -/
def textsK (P : Pl) (k : By) : List By := ((P.m k).getD []).map writtenR
/-- A block of texts. -/
def Ty (w : World) (i : Nat) : Prop := ∃ cur, w.heap[i]? = some (.cells cur 9 (0, 0))
theorem Ty.keep {S : Nat → Prop} {w w' : World} {i : Nat} (h : Ty w i) (hk : Keep S w w') (hs : ¬ S i) : Ty w' i := by
  obtain ⟨cur, h⟩ := h; exact ⟨cur, box_keep h hk hs⟩
theorem Ty.below {w w' : World} {i : Nat} (h : Ty w i) (hb : Below w.heap.size w w') : Ty w' i := h.keep (S := fun _ => False) (Keep.ofBelow hb) (fun e => e)
theorem own_ty {w : World} {B n m sz : Nat} {ad : Addr} {c : Nat} {xs : List Value} (h : w.ownsRow B 9 sz (.slice (some ad) n c) m xs) : Ty w ad.block := by
  rcases h.2 with ⟨hv, _⟩ | ⟨g, cap, cur, hv, _, hh, _⟩
  · cases hv
  · cases hv; exact ⟨cur, hh⟩
/-- The rows of a row of texts; F: where they lie. -/
structure Vr (w : World) (vs : List Value) (tss : List (List By)) (F : Nat → Prop) : Prop where
  len : vs.length = tss.length
  row : ∀ j v, vs[j]? = some v → ∃ a n c, v = .slice a n c ∧ TRd w a n c (tss.getD j []) ∧ ∀ ad, a = some ad → F ad.block ∧ Ty w ad.block
theorem Vr.nil (w : World) (F : Nat → Prop) : Vr w [] [] F := ⟨rfl, fun j v h => by cases h⟩
theorem Vr.keep {S F G : Nat → Prop} {w w' : World} {vs : List Value} {tss : List (List By)} (h : Vr w vs tss F) (hk : Keep S w w') (hs : ∀ i, F i → ¬ S i) (hg : ∀ i, F i → G i) : Vr w' vs tss G :=
  ⟨h.len, fun j v hv => by
    obtain ⟨a, n, c, e, ht, hf⟩ := h.row j v hv
    exact ⟨a, n, c, e, ht.keep hk (fun ad e2 => hs _ (hf ad e2).1), fun ad e2 => ⟨hg _ (hf ad e2).1, (hf ad e2).2.keep hk (hs _ (hf ad e2).1)⟩⟩⟩
theorem Vr.snoc {w : World} {vs : List Value} {tss : List (List By)} {F : Nat → Prop} (h : Vr w vs tss F) {a : Option Addr} {n c : Nat} {ts : List By} (ht : TRd w a n c ts) (hf : ∀ ad, a = some ad → F ad.block ∧ Ty w ad.block) : Vr w (vs ++ [.slice a n c]) (tss ++ [ts]) F := by
  refine ⟨by simp [h.len], fun j v hv => ?_⟩
  by_cases hj : j < vs.length
  · rw [List.getElem?_append_left hj] at hv
    obtain ⟨a2, n2, c2, e, ht2, hf2⟩ := h.row j v hv
    refine ⟨a2, n2, c2, e, ?_, hf2⟩
    rw [List.getD_eq_getElem?_getD, List.getElem?_append_left (by rw [← h.len]; exact hj), ← List.getD_eq_getElem?_getD]
    exact ht2
  · have hl := h.len
    have he : j = vs.length := by
      have := (List.getElem?_eq_some_iff.1 hv).1
      rw [List.length_append, List.length_singleton] at this
      omega
    subst he
    rw [List.getElem?_append_right (Nat.le_refl _), Nat.sub_self] at hv
    simp at hv
    subst hv
    refine ⟨a, n, c, rfl, ?_, hf⟩
    rw [List.getD_eq_getElem?_getD, hl, List.getElem?_append_right (Nat.le_refl _), Nat.sub_self]
    exact ht
def shc (li ru : Int) (us : By) (vN vT : Value) : Array Value := #[.int .i64 li, .int .i64 ru, .string (ba us), vN, vT]
/-- What Shelf tells, in blocks from B on. -/
def ShA (w : World) (B : Nat) (li ru : Int) (us : By) (ns : List By) (tss : List (List By)) (S : Value) : Prop :=
  ∃ vN vT vs, S = .agg (shc li ru us vN vT) ∧ w.ownsRow B 9 1 vN ns.length (tc ns) ∧ w.ownsRow B 32 1 vT tss.length vs ∧ Vr w vs tss (fun i => B ≤ i ∧ vN.ownBlock ≠ some i ∧ vT.ownBlock ≠ some i)
end Go.Proofs.YtiplalbicibahaaGreatDoor

/- privacy: Shelf, as the program tells it. -/
set_option maxRecDepth 100000
namespace Go.Proofs.YtiplalbicibahaaGreatDoor
open Go.RowKit Go.Joins Go.Shelf

/-! ### a shelf in a variable of its own -/
def ShAt (w : World) (g : Nat) (c : Array Value) : Prop := w.heap[g]? = some (.cells c 38 (0, 0))
theorem infoShelf : (Tryz.prog.info? 38).map (·.size) = some 5 := by kernel_rfl
def shZ : Array Value := #[.int .i64 0, .int .i64 0, .string ⟨#[]⟩, .slice none 0 0, .slice none 0 0]
theorem exec_store_sh {o : Oper} {ρ : Operand → Value} {w : World} (x y : Operand) (ho : o.op = .store 38 x y) (g : Nat) (hx : ρ x = .pointer (some ⟨g, 0, none⟩)) (c : Array Value) (hc : c.size = 5) (h1 : c.all (·.oneCell') = true) (hy : ρ y = .agg c) (old : Array Value) (hol : old.size = 5) (hg : ShAt w g old) :
    (execOp ρ o).run Tryz.prog w = .ok .skip (w.setRow g c) := by
  unfold execOp
  simp only [ho, hx, hy, Instr.storeAt, Instr.sureAddr, Sem.run_bind, Sem.run_pure, Result.andThen_ok, run_storeVar_row w g 38 38 _ c hg (by rw [infoShelf, hc]) (by rw [hol, hc]) h1]
theorem exec_appG {w w' : World} {o : Oper} {ρ : Operand → Value} {s x : Operand} {t : TypeId} {v u v' : Value} (ho : o.op = .call { callee := .builtin .append, args := #[s, x], argTypes := #[t, t] }) (hs : ρ s = v) (hx : ρ x = u)
    (hrun : (Builtin.append_ #[t, t] o.type #[v, u]).run Tryz.prog w = .ok v' w') : (execOp ρ o).run Tryz.prog w = .ok (.value v') w' := by
  simp only [execOp, ho, resolve, invoke, builtin, Sem.run_bind, Sem.run_pure, Result.andThen_ok, List.map_toArray, List.map_cons, List.map_nil, hs, hx, hrun]
theorem infoStrsG : (Tryz.prog.info? 32).map (fun i => (i.zero, i.size, i.bytes)) = some (some (.slice none 0 0), 1, 24) := by kernel_rfl
theorem sh3 {w : World} {g : Nat} {a b : Int} {c : By} {vN vT : Value} (h : ShAt w g (shc a b c vN vT)) : w.cell? ⟨g, 3, none⟩ = some vN := by rw [cell_of_block h]; rfl
theorem sh4 {w : World} {g : Nat} {a b : Int} {c : By} {vN vT : Value} (h : ShAt w g (shc a b c vN vT)) : w.cell? ⟨g, 4, none⟩ = some vT := by rw [cell_of_block h]; rfl
theorem sortK_len (ks : List By) : (sortK ks).length = ks.length := List.length_mergeSort _
theorem run_load_sh {w : World} {g : Nat} {c : Array Value} (hc : c.size = 5) (h : ShAt w g c) : (loadVar 38 ⟨g, 0, none⟩).run Tryz.prog w = .ok (.agg c) w := run_loadVar_row w g 38 38 _ (0, 0) _ h Tryz.underlying38 rfl (by rw [infoShelf, hc])
theorem wp_load_sh {ops : Array Oper} {rest : List Oper} {o : Oper} {a : Act} {w : World} {Q : Exit → Act → World → Prop} (hgd : o.guard = none) (x : Operand) (ho : o.op = .load 38 x) (g : Nat) (hx : a.eval x = .pointer (some ⟨g, 0, none⟩)) (c : Array Value) (hc : c.size = 5) (hg : ShAt w g c)
    (hk : wpList Tryz.prog ops Q rest (a.put o.dst (.agg c)) w) : wpList Tryz.prog ops Q (o :: rest) a w := by
  refine wpList_plain hgd fun K' hK' => ?_
  unfold Oper.wp execOp
  simp only [ho, hx, Instr.loadAt, Instr.sureAddr, Sem.run_bind, Sem.run_pure, Result.andThen_ok, run_load_sh hc hg]
  exact hK' _ _ hk
theorem wp_store_sh {ops : Array Oper} {rest : List Oper} {o : Oper} {a : Act} {w : World} {Q : Exit → Act → World → Prop} (hgd : o.guard = none) (x y : Operand) (ho : o.op = .store 38 x y) (g : Nat) (hx : a.eval x = .pointer (some ⟨g, 0, none⟩)) (c : Array Value) (hc : c.size = 5) (h1 : c.all (·.oneCell') = true) (hy : a.eval y = .agg c) (old : Array Value) (hol : old.size = 5) (hg : ShAt w g old)
    (hk : wpList Tryz.prog ops Q rest (a.put o.dst undef) (w.setRow g c)) : wpList Tryz.prog ops Q (o :: rest) a w := by
  refine wpList_plain hgd fun K' hK' => ?_
  unfold Oper.wp
  rw [exec_store_sh x y ho g hx c hc h1 hy old hol hg]
  exact hK' _ _ hk
theorem res_sh {fn : Func} {p : Tmp} (h : fn.results = #[.cell p 38]) (tmps : Array Value) (w : World) (g : Nat) (c : Array Value) (hc : c.size = 5) (hp : tmps.getD p undef = .pointer (some ⟨g, 0, none⟩)) (hg : ShAt w g c) : (results fn tmps).run Tryz.prog w = .ok (.agg c) w :=
  results_cell_row h tmps w g 38 _ (0, 0) _ hp hg Tryz.underlying38 rfl (by rw [infoShelf, hc])
/-- A shelf that is told, half made: jn names, jt rows of texts; the sorted names sv beside it. -/
structure ShM (B : Nat) (w wr : World) (P : Pl) (g : Nat) (sv : Value) (ks : List By) (vN : Value) (jn : Nat) (vT : Value) (vs : List Value) (jt : Nat) : Prop where
  blk : ShAt wr g (shc P.li P.ru P.us vN vT)
  res : ShAt wr B shZ
  oN : wr.ownsRow (B + 1) 9 1 vN jn (tc (ks.take jn))
  oT : wr.ownsRow (B + 1) 32 1 vT jt vs
  rows : Vr wr vs ((ks.take jt).map (textsK P)) (fun i => B + 1 ≤ i ∧ i < wr.heap.size ∧ vN.ownBlock ≠ some i ∧ vT.ownBlock ≠ some i ∧ i ≠ g)
  srt : wr.ownsRow 0 9 1 sv ks.length (tc ks)
  gN : vN.ownBlock ≠ some g
  gT : vT.ownBlock ≠ some g
  nT : ∀ i, vN.ownBlock = some i → vT.ownBlock ≠ some i
  sN : ∀ i, sv.ownBlock = some i → vN.ownBlock ≠ some i
  sT : ∀ i, sv.ownBlock = some i → vT.ownBlock ≠ some i
  sg : sv.ownBlock ≠ some g
  hg : B + 1 ≤ g
  bel : Below B w wr
section
variable {B : Nat} {w wr w5 : World} {P : Pl} {g : Nat} {sv : Value} {ks : List By} {vN : Value} {jn : Nat} {vT : Value} {vs : List Value} {jt : Nat}
theorem ShM.gl (h : ShM B w wr P g sv ks vN jn vT vs jt) : g < wr.heap.size := box_lt h.blk
theorem ShM.below (h : ShM B w wr P g sv ks vN jn vT vs jt) (hb : Below wr.heap.size wr w5) : ShM B w w5 P g sv ks vN jn vT vs jt := by
  have hk : Keep (fun _ => False) wr w5 := Keep.ofBelow hb
  have hs := hb.size
  have hgl := h.gl
  have hg := h.hg
  exact ⟨box_below h.blk hb, box_below h.res hb, own_keep h.oN hk (fun _ _ e => e), own_keep h.oT hk (fun _ _ e => e), h.rows.keep hk (fun _ _ e => e) (fun i hi => ⟨hi.1, by omega, hi.2.2⟩), own_keep h.srt hk (fun _ _ e => e), h.gN, h.gT, h.nT, h.sN, h.sT, h.sg, hg, h.bel.trans (hb.mono (by omega))⟩
/-- One name more. -/
theorem ShM.name (h : ShM B w wr P g sv ks vN jn vT vs jt) {v5 : Value} (o5 : w5.ownsRow (B + 1) 9 1 v5 (jn + 1) (tc (ks.take (jn + 1)))) (k5 : Keep (fun k => vN.ownBlock = some k) wr w5) (h4 : v5.ownBlock = vN.ownBlock ∨ ∃ g', v5.ownBlock = some g' ∧ wr.heap.size ≤ g') :
    ShM B w (w5.setCell ⟨g, 3, none⟩ v5) P g sv ks v5 (jn + 1) vT vs jt := by
  have hgl := h.gl
  have hg := h.hg
  have hs := k5.size
  have hkS : Keep (fun i => i = g) w5 (w5.setCell ⟨g, 3, none⟩ v5) := setK w5 g 3 v5
  have hsS := hkS.size
  have hnew : ∀ i, i < wr.heap.size → vN.ownBlock ≠ some i → v5.ownBlock ≠ some i := fun i hi hne e => by
    rcases h4 with h4 | ⟨g', h4, hge⟩
    · rw [h4] at e; exact hne e
    · rw [h4] at e; injection e with e; omega
  have hb5 : ShAt w5 g (shc P.li P.ru P.us vN vT) := box_keep h.blk k5 h.gN
  have hlN : ∀ k, vN.ownBlock = some k → B + 1 ≤ k := fun k e => (h.oN.lt k e).1
  refine ⟨block_setCell (i := 3) hb5 v5, box_keep (box_keep h.res k5 (fun e => by have := hlN _ e; omega)) hkS (by omega), own_keep o5 hkS (fun k e e2 => hnew g hgl h.gN (by rw [← e2]; exact e)), own_keep (own_keep h.oT k5 (fun k e e2 => h.nT k e2 e)) hkS (fun k e e2 => h.gT (by rw [← e2]; exact e)), (h.rows.keep k5 (fun i hi => hi.2.2.1) (fun i hi => hi)).keep hkS (fun i hi => hi.2.2.2.2) (fun i hi => ⟨hi.1, by have := hi.2.1; omega, hnew i hi.2.1 hi.2.2.1, hi.2.2.2⟩), own_keep (own_keep h.srt k5 (fun k e e2 => h.sN k e e2)) hkS (fun k e e2 => h.sg (by rw [← e2]; exact e)), hnew g hgl h.gN, h.gT, fun i e e2 => ?_, fun i e => hnew i (h.srt.lt i e).2 (h.sN i e), h.sT, h.sg, hg, ?_⟩
  · exact hnew i (h.oT.lt i e2).2 (fun e3 => h.nT i e3 e2) e
  · exact (h.bel.trans (k5.below (by omega) (fun j e => by have := hlN j e; omega))).trans (hkS.below (by omega) (fun j e => by omega))
/-- One row of texts more. -/
theorem ShM.text (h : ShM B w wr P g sv ks vN jn vT vs jt) {v5 : Value} {a : Option Addr} {n c : Nat} {k : By} (o5 : w5.ownsRow (B + 1) 32 1 v5 (jt + 1) (vs ++ [.slice a n c])) (k5 : Keep (fun k => vT.ownBlock = some k) wr w5) (h4 : v5.ownBlock = vT.ownBlock ∨ ∃ g', v5.ownBlock = some g' ∧ wr.heap.size ≤ g')
    (hk : ks.take (jt + 1) = ks.take jt ++ [k]) (ht : TRd wr a n c (textsK P k)) (hF : ∀ ad, a = some ad → B + 1 ≤ ad.block ∧ ad.block < wr.heap.size ∧ vN.ownBlock ≠ some ad.block ∧ vT.ownBlock ≠ some ad.block ∧ ad.block ≠ g) (hY : ∀ ad, a = some ad → Ty wr ad.block) :
    ShM B w (w5.setCell ⟨g, 4, none⟩ v5) P g sv ks vN jn v5 (vs ++ [.slice a n c]) (jt + 1) := by
  have hgl := h.gl
  have hg := h.hg
  have hs := k5.size
  have hkS : Keep (fun i => i = g) w5 (w5.setCell ⟨g, 4, none⟩ v5) := setK w5 g 4 v5
  have hsS := hkS.size
  have hnew : ∀ i, i < wr.heap.size → vT.ownBlock ≠ some i → v5.ownBlock ≠ some i := fun i hi hne e => by
    rcases h4 with h4 | ⟨g', h4, hge⟩
    · rw [h4] at e; exact hne e
    · rw [h4] at e; injection e with e; omega
  have hb5 : ShAt w5 g (shc P.li P.ru P.us vN vT) := box_keep h.blk k5 h.gT
  have hlT : ∀ k, vT.ownBlock = some k → B + 1 ≤ k := fun k e => (h.oT.lt k e).1
  have hrow : Vr wr (vs ++ [.slice a n c]) ((ks.take (jt + 1)).map (textsK P)) (fun i => B + 1 ≤ i ∧ i < wr.heap.size ∧ vN.ownBlock ≠ some i ∧ vT.ownBlock ≠ some i ∧ i ≠ g) := by
    rw [hk, List.map_append]
    exact h.rows.snoc ht (fun ad e => ⟨hF ad e, hY ad e⟩)
  refine ⟨block_setCell (i := 4) hb5 v5, box_keep (box_keep h.res k5 (fun e => by have := hlT _ e; omega)) hkS (by omega), own_keep (own_keep h.oN k5 (fun k e e2 => h.nT k e e2)) hkS (fun k e e2 => h.gN (by rw [← e2]; exact e)), own_keep o5 hkS (fun k e e2 => hnew g hgl h.gT (by rw [← e2]; exact e)), (hrow.keep k5 (fun i hi => hi.2.2.2.1) (fun i hi => hi)).keep hkS (fun i hi => hi.2.2.2.2) (fun i hi => ⟨hi.1, by have := hi.2.1; omega, hi.2.2.1, hnew i hi.2.1 hi.2.2.2.1, hi.2.2.2.2⟩), own_keep (own_keep h.srt k5 (fun k e e2 => h.sT k e e2)) hkS (fun k e e2 => h.sg (by rw [← e2]; exact e)), h.gN, hnew g hgl h.gT, fun i e => hnew i (h.oN.lt i e).2 (h.nT i e), h.sN, fun i e => hnew i (h.srt.lt i e).2 (h.sT i e), h.sg, hg, ?_⟩
  exact (h.bel.trans (k5.below (by omega) (fun j e => by have := hlT j e; omega))).trans (hkS.below (by omega) (fun j e => by omega))
end
set_option maxHeartbeats 3200000 in
theorem shelf_any (w : World) (F : Nat → Prop) (q mb : Nat) (m : By → Option Rw) (P : Pl) (h : LsM w F q mb m P) (hk : P.ks.length ≤ 100000) (hu : P.us.length ≤ 1000000) (hkl : ∀ k ∈ P.ks, k.length ≤ 1000000) (hrl : ∀ k, ((P.m k).getD []).length ≤ 100000) (hrz : ∀ k, ∀ r ∈ (P.m k).getD [], r.k.length + r.v.length ≤ 281474976710000) :
    Calls Tryz.prog 11 #[.pointer (some ⟨q, 0, none⟩)] w fun e w' => ∃ S, e = .returned S ∧ ShA w' w.heap.size P.li P.ru P.us (sortK P.ks) ((sortK P.ks).map (textsK P)) S ∧ Below w.heap.size w w' := by
  have HA : Hid (P.ks.length ≤ 100000 ∧ (∀ k ∈ P.ks, k.length ≤ 1000000) ∧ (∀ k, ((P.m k).getD []).length ≤ 100000) ∧ ∀ k, ∀ r ∈ (P.m k).getD [], r.k.length + r.v.length ≤ 281474976710000) := ⟨hk, hkl, hrl, hrz⟩
  have cU := fun w => clone_any (ba P.us) w (by rw [ba_size]; omega)
  have HW : Hid (LsM (w.alloc (.cells shZ 38)).drew F q mb m P ∧ ShAt (w.alloc (.cells shZ 38)).drew w.heap.size shZ ∧ Below w.heap.size w (w.alloc (.cells shZ 38)).drew ∧ (w.alloc (.cells shZ 38)).drew.heap.size = w.heap.size + 1) :=
    ⟨(h.below (below1 w _)).below (Below.refl _ _).drew, push_at _ _ rfl, (below1 w _).drew, by simp⟩
  have HL : Hid (LsM w F q mb m P) := h
  clear hk hkl hrl hrz hu h
  go_enter Tryz.func11, Tryz.ntmps11
  go_upto_region 1 with fail
  obtain ⟨B, HB⟩ : ∃ B, Hid (w.heap.size = B) := ⟨_, rfl⟩
  rw [HB.out] at HW ⊢
  unfold shZ at HW
  generalize hX : w.alloc _ = X0 at HW ⊢
  clear hX
  go_cut [3] from 6 to 19 (fun p wx => ∃ g, p = .pointer (some ⟨g, 0, none⟩) ∧ ShAt wx g (shc P.li P.ru P.us (.slice none 0 0) (.slice none 0 0)) ∧ B + 1 ≤ g ∧ ShAt wx B shZ ∧ Below B w wx)
  case first =>
    refine wp_region_lx (fun w' => LsM w' F q mb m P) [15] 16 (by kernel_rfl) (by kernel_rfl) ?_
    generalize World.drew _ = X at HW ⊢
    have HS0 := HW.out.1
    refine lx_rd 0 ?vA0 (by kernel_rfl) (fun _ _ d _ _ h => by cases d <;> exact h) (by kernel_rfl) HS0 rfl rfl rfl (fun w' hS => ?hA0) ?_
    case hA0 => first | (go_simp; rfl) | go_simp
    simp only [List.setIfInBounds_toArray, List.set_cons_zero, List.set_cons_succ]
    refine lx_rd 1 (.pointer (some ⟨q, 0, none⟩)) (by kernel_rfl) (fun _ _ d _ _ h => by cases d <;> exact h) (by kernel_rfl) HS0 rfl rfl rfl (fun w' hS => ?hA1) ?_
    case hA1 => first | (go_simp; rfl) | go_simp
    simp only [List.setIfInBounds_toArray, List.set_cons_zero, List.set_cons_succ]
    refine lx_rd 2 (.pointer (some ⟨q, 0, none⟩)) (by kernel_rfl) (fun _ _ d _ _ h => by cases d <;> exact h) (by kernel_rfl) HS0 rfl rfl rfl (fun w' hS => ?hA2) ?_
    case hA2 => first | (go_simp; rfl) | go_simp
    simp only [List.setIfInBounds_toArray, List.set_cons_zero, List.set_cons_succ]
    refine lx_rd 3 (.int .i64 P.li) (by kernel_rfl) (fun _ _ d _ _ h => by cases d <;> exact h) (by kernel_rfl) HS0 rfl rfl rfl (fun w' hS => ?hA3) ?_
    case hA3 => have q0 := hS.c0; first | (go_simp; rfl) | go_simp
    simp only [List.setIfInBounds_toArray, List.set_cons_zero, List.set_cons_succ]
    refine lx_rd 4 ?vA4 (by kernel_rfl) (fun _ _ d _ _ h => by cases d <;> exact h) (by kernel_rfl) HS0 rfl rfl rfl (fun w' hS => ?hA4) ?_
    case hA4 => first | (go_simp; rfl) | go_simp
    simp only [List.setIfInBounds_toArray, List.set_cons_zero, List.set_cons_succ]
    refine lx_rd 5 (.pointer (some ⟨q, 0, none⟩)) (by kernel_rfl) (fun _ _ d _ _ h => by cases d <;> exact h) (by kernel_rfl) HS0 rfl rfl rfl (fun w' hS => ?hA5) ?_
    case hA5 => first | (go_simp; rfl) | go_simp
    simp only [List.setIfInBounds_toArray, List.set_cons_zero, List.set_cons_succ]
    refine lx_rd 6 (.pointer (some ⟨q, 1, none⟩)) (by kernel_rfl) (fun _ _ d _ _ h => by cases d <;> exact h) (by kernel_rfl) HS0 rfl rfl rfl (fun w' hS => ?hA6) ?_
    case hA6 => first | (go_simp; rfl) | go_simp
    simp only [List.setIfInBounds_toArray, List.set_cons_zero, List.set_cons_succ]
    refine lx_rd 7 (.int .i64 P.ru) (by kernel_rfl) (fun _ _ d _ _ h => by cases d <;> exact h) (by kernel_rfl) HS0 rfl rfl rfl (fun w' hS => ?hA7) ?_
    case hA7 => have q0 := hS.c1; first | (go_simp; rfl) | go_simp
    simp only [List.setIfInBounds_toArray, List.set_cons_zero, List.set_cons_succ]
    refine lx_rd 8 ?vA8 (by kernel_rfl) (fun _ _ d _ _ h => by cases d <;> exact h) (by kernel_rfl) HS0 rfl rfl rfl (fun w' hS => ?hA8) ?_
    case hA8 => first | (go_simp; rfl) | go_simp
    simp only [List.setIfInBounds_toArray, List.set_cons_zero, List.set_cons_succ]
    refine lx_rd 9 (.pointer (some ⟨q, 0, none⟩)) (by kernel_rfl) (fun _ _ d _ _ h => by cases d <;> exact h) (by kernel_rfl) HS0 rfl rfl rfl (fun w' hS => ?hA9) ?_
    case hA9 => first | (go_simp; rfl) | go_simp
    simp only [List.setIfInBounds_toArray, List.set_cons_zero, List.set_cons_succ]
    refine lx_rd 10 (.pointer (some ⟨q, 2, none⟩)) (by kernel_rfl) (fun _ _ d _ _ h => by cases d <;> exact h) (by kernel_rfl) HS0 rfl rfl rfl (fun w' hS => ?hA10) ?_
    case hA10 => first | (go_simp; rfl) | go_simp
    simp only [List.setIfInBounds_toArray, List.set_cons_zero, List.set_cons_succ]
    refine lx_rd 11 (.string (ba P.us)) (by kernel_rfl) (fun _ _ d _ _ h => by cases d <;> exact h) (by kernel_rfl) HS0 rfl rfl rfl (fun w' hS => ?hA11) ?_
    case hA11 => have q0 := hS.c2; first | (go_simp; rfl) | go_simp
    simp only [List.setIfInBounds_toArray, List.set_cons_zero, List.set_cons_succ]
    refine lx_two 12 14 (by kernel_rfl) ?_ ?_
    · refine stepT_call 31 ?ac rfl rfl rfl ?rc ?_
      case rc => first | (go_simp; rfl) | go_simp
      refine (cU X).mono ?_
      rintro e X1 ⟨rfl, hb1⟩
      have HS1 : LsM X1 F q mb m P := HS0.below hb1
      refine ⟨_, rfl, fun _ => HS1, ?_⟩
      simp only [lxa, lxb, lxc]
      refine lx_rd 13 (.agg (shc P.li P.ru P.us (.slice none 0 0) (.slice none 0 0))) (by kernel_rfl) (fun _ _ d _ _ h => by cases d <;> exact h) (by kernel_rfl) HS1 rfl rfl rfl (fun w' hS => ?hC13) ?_
      case hC13 => first | (go_simp; rfl) | go_simp
      simp only [List.setIfInBounds_toArray, List.set_cons_zero, List.set_cons_succ]
      have HS2 : LsM (X1.alloc (.cells shZ 38)) F q mb m P := HS1.below (below1 _ _)
      refine lx_one 14 (by kernel_rfl) (stepT_val (w' := X1.alloc (.cells shZ 38)) (.pointer (some ⟨X1.heap.size, 0, none⟩)) rfl rfl rfl ?rd (fun _ => HS2) ?_)
      case rd => first | (go_simp; rfl) | go_simp
      simp only [lxa, lxb, lxc]
      have hat : ShAt (X1.alloc (.cells shZ 38)) X1.heap.size shZ := push_at _ _ rfl
      refine lx_one 15 (by kernel_rfl) (stepT_store (w' := (X1.alloc (.cells shZ 38)).setRow X1.heap.size (shc P.li P.ru P.us (.slice none 0 0) (.slice none 0 0))) rfl rfl rfl (exec_store_sh (.tmp 3) (.tmp 19) rfl X1.heap.size rfl _ rfl (by simp [shc, Value.oneCell']) rfl shZ rfl hat) (fun h => by cases h) ?_)
      refine lx_nil (by kernel_rfl) ?_
      have hz1 := hb1.size
      have hz0 := HW.out.2.2.2
      have hk9 := rowK (X1.alloc (.cells shZ 38)) X1.heap.size (shc P.li P.ru P.us (.slice none 0 0) (.slice none 0 0))
      go_wp2_with fail
      go_meet
      exact ⟨X1.heap.size, rfl, setRow_heap _ X1.heap.size _ _ 38 (0, 0) hat, by omega, box_keep (box_below (box_below HW.out.2.1 hb1) (below1 _ _)) hk9 (by omega), ((HW.out.2.2.1.trans (hb1.mono (by omega))).trans ((below1 X1 (.cells shZ 38)).mono (by omega))).trans (hk9.below (by simp; omega) (fun j e => by omega))⟩
    · have hb2 := below1 X (.cells shZ 38)
      have hz0 := HW.out.2.2.2
      have HS1 : LsM (X.alloc (.cells shZ 38)) F q mb m P := HS0.below hb2
      refine stepT_val (w' := X.alloc (.cells shZ 38)) (.pointer (some ⟨X.heap.size, 0, none⟩)) rfl rfl rfl ?re (fun _ => HS1) ?_
      case re => first | (go_simp; rfl) | go_simp
      simp only [lxa, lxb, lxc]
      have hat : ShAt (X.alloc (.cells shZ 38)) X.heap.size shZ := push_at _ _ rfl
      have hat0 : ShAt (X.alloc (.cells shZ 38)) B shZ := box_below HW.out.2.1 hb2
      have hbX : Below B w (X.alloc (.cells shZ 38)) := HW.out.2.2.1.trans (hb2.mono (by omega))
      have hzX : (X.alloc (.cells shZ 38)).heap.size = X.heap.size + 1 := by simp
      generalize X.heap.size = g at *
      generalize X.alloc (.cells shZ 38) = Y at *
      refine lx_one 12 (by kernel_rfl) (stepT_call 31 ?af rfl rfl rfl ?rf ?_)
      case rf => first | (go_simp; rfl) | go_simp
      refine (cU Y).mono ?_
      rintro e X1 ⟨rfl, hb1⟩
      have HS2 : LsM X1 F q mb m P := HS1.below hb1
      have hz1 := hb1.size
      refine ⟨_, rfl, fun _ => HS2, ?_⟩
      simp only [lxa, lxb, lxc]
      refine lx_rd 13 (.agg (shc P.li P.ru P.us (.slice none 0 0) (.slice none 0 0))) (by kernel_rfl) (fun _ _ d _ _ h => by cases d <;> exact h) (by kernel_rfl) HS2 rfl rfl rfl (fun w' hS => ?hD13) ?_
      case hD13 => first | (go_simp; rfl) | go_simp
      simp only [List.setIfInBounds_toArray, List.set_cons_zero, List.set_cons_succ]
      have hat1 : ShAt X1 g shZ := box_below hat hb1
      refine lx_one 15 (by kernel_rfl) (stepT_store (w' := X1.setRow g (shc P.li P.ru P.us (.slice none 0 0) (.slice none 0 0))) rfl rfl rfl (exec_store_sh (.tmp 3) (.tmp 19) rfl g rfl _ rfl (by simp [shc, Value.oneCell']) rfl shZ rfl hat1) (fun h => by cases h) ?_)
      refine lx_nil (by kernel_rfl) ?_
      have hk9 := rowK X1 g (shc P.li P.ru P.us (.slice none 0 0) (.slice none 0 0))
      go_wp2_with fail
      go_meet
      exact ⟨g, rfl, setRow_heap _ g _ _ 38 (0, 0) hat1, by omega, box_keep (box_below hat0 hb1) hk9 (by omega), (hbX.trans (hb1.mono (by omega))).trans (hk9.below (by omega) (fun j e => by omega))⟩
  case rest =>
    obtain ⟨g, rfl, hG, hBg, hR, hbw⟩ := hcut
    have hLw : LsM wc F q mb m P := HL.out.below (by rw [HB.out]; exact hbw)
    have c3 := hLw.c3
    have cK := names_keys mb wc
    have cS := names_sorted hLw (by have := HA.out.1; omega)
    go_upto_region 3 with (first
      | (go_at_call 33; refine cK.mono ?_; clear cK; rintro e w1 ⟨rfl, rfl⟩)
      | (go_at_call 32; refine cS.mono ?_; clear cS; rintro e w2 ⟨sv, rfl, hsv, hb2⟩; obtain ⟨sa, sc, hse⟩ := ownR_sl hsv; subst hse))
    have hlen := sortK_len P.ks
    have M0 : Hid (ShM B w w2 P g (.slice sa P.ks.length sc) (sortK P.ks) (.slice none 0 0) 0 (.slice none 0 0) [] 0) := by
      have hgl := box_lt hG
      have hal := below1 wc (.cells #[.map (some mb)] 52)
      have hz : (wc.alloc (.cells #[.map (some mb)] 52)).heap.size = wc.heap.size + 1 := by simp
      have hb2' : Below wc.heap.size wc w2 := hal.trans (hb2.mono (by omega))
      refine ⟨box_below hG hb2', box_below hR hb2', World.ownsRow_nil .., World.ownsRow_nil .., Vr.nil _ _, by rw [hlen]; exact own_weak hsv (Nat.zero_le _), (fun e => by cases e), (fun e => by cases e), (fun i e => by cases e), (fun i e e2 => by cases e2), (fun i e e2 => by cases e2), (fun e => by have := (hsv.lt g e).1; omega), hBg, hbw.trans (hb2'.mono (by omega))⟩
    clear hsv hb2 hG hR hbw hLw c3 HW
    obtain ⟨N, HN⟩ : ∃ N, Hid (P.ks.length = N) := ⟨_, rfl⟩
    have hN : N ≤ 100000 := by rw [← HN.out]; exact HA.out.1
    rw [HN.out] at M0 hlen ⊢
    obtain ⟨ks, Hks⟩ : ∃ ks, Hid (sortK P.ks = ks) := ⟨_, rfl⟩
    rw [Hks.out] at M0 hlen
    replace hlen : Hid _ := hlen
    go_loopw [5, 27] (fun _ s27 wr => ∃ (j : Nat) (vN vT : Value) (vs : List Value), s27 = .int .i64 (j : Int) ∧ j ≤ N ∧ Hid (ShM B w wr P g (.slice sa N sc) ks vN j vT vs j)) (fun _ s27 _ => N - (intOf s27).toNat)
    case atStart => exact ⟨0, _, _, _, rfl, by omega, M0⟩
    case round =>
      obtain ⟨j, vN, vT, vs, rfl, hj, M⟩ := hrel
      clear M0
      by_cases hlt : j < N
      · have hcl : (j : Int) < (N : Int) := by omega
        obtain ⟨a1, c1, he, hT⟩ := TRd.ofOwn M.out.srt
        injection he with he1 he2 he3
        subst he1 he3
        clear he2
        obtain ⟨b, off, rfl, hce⟩ := hT.flat (by rw [hlen.out]; omega)
        have u1 := hce j (by rw [hlen.out]; exact hlt)
        obtain ⟨y, hy⟩ : ∃ y, ks[j]? = some y := ⟨_, List.getElem?_eq_getElem (by rw [hlen.out]; exact hlt)⟩
        rw [show ks.getD j [] = y by rw [List.getD_eq_getElem?_getD, hy]; rfl] at u1
        have HTk : Hid (ks.take (j + 1) = ks.take j ++ [y]) := by
          show _ = _
          rw [List.take_add_one, hy]; rfl
        have hym : y ∈ P.ks := by
          have := List.mem_of_getElem? hy
          rw [← Hks.out] at this
          exact List.mem_mergeSort.1 this
        have hyl := HA.out.2.1 y hym
        have cC := fun w => clone_any (ba y) w (by rw [ba_size]; omega)
        clear hce hT hy hym
        obtain ⟨av, cv, hv⟩ := ownR_sl M.out.oN
        subst hv
        obtain ⟨at1, ct, hv⟩ := ownR_sl M.out.oT
        subst hv
        go_upto_region 5 with fail
        refine wp_region_lx (fun w' => ShAt w' g (shc P.li P.ru P.us (.slice av j cv) (.slice at1 j ct))) [7] 8 (by kernel_rfl) (by kernel_rfl) ?_
        have D0 := M.out.below (Below.refl _ _).drew
        generalize World.drew _ = X at D0 ⊢
        have HS0 := D0.blk
        refine lx_rd 0 (.pointer (some ⟨g, 3, none⟩)) (by kernel_rfl) (fun _ _ d _ _ h => by cases d <;> exact h) (by kernel_rfl) HS0 rfl rfl rfl (fun w' hS => ?hE0) ?_
        case hE0 => first | (go_simp; rfl) | go_simp
        simp only [List.setIfInBounds_toArray, List.set_cons_zero, List.set_cons_succ]
        refine lx_rd 1 (.slice av j cv) (by kernel_rfl) (fun _ _ d _ _ h => by cases d <;> exact h) (by kernel_rfl) HS0 rfl rfl rfl (fun w' hS => ?hE1) ?_
        case hE1 => have q0 := sh3 hS; first | (go_simp; rfl) | go_simp
        simp only [List.setIfInBounds_toArray, List.set_cons_zero, List.set_cons_succ]
        refine lx_rd 2 (.string (ba y)) (by kernel_rfl) (fun _ _ d _ _ h => by cases d <;> exact h) (by kernel_rfl) HS0 rfl rfl rfl (fun w' hS => ?hE2) ?_
        case hE2 => first | (go_simp; rfl) | go_simp
        simp only [List.setIfInBounds_toArray, List.set_cons_zero, List.set_cons_succ]
        refine lx_one 3 (by kernel_rfl) (stepT_call 31 ?ag rfl rfl rfl ?rg ?_)
        case rg => first | (go_simp; rfl) | go_simp
        refine (cC X).mono ?_
        rintro e X1 ⟨rfl, hb1⟩
        have D1 := D0.below hb1
        refine ⟨_, rfl, fun _ => D1.blk, ?_⟩
        simp only [lxa, lxb, lxc]
        have D2 := D1.below (below1 X1 (.cells #[.string (ba y)] 9))
        refine lx_one 4 (by kernel_rfl) (stepT_val (w' := X1.alloc (.cells #[.string (ba y)] 9)) (.slice (some ⟨X1.heap.size, 0, none⟩) 1 1) rfl rfl rfl ?rh (fun _ => D2.blk) ?_)
        case rh => first | (go_simp; rfl) | go_simp
        simp only [lxa, lxb, lxc]
        obtain ⟨v5, w5, hrun5, o5, k5, h5, _⟩ := run_appG 32 9 _ 16 Tryz.underlying32 infoStr1 (by decide) rfl (w := X1) 32 D1.oN (.string (ba y)) (by simp [Value.oneCell']) (by omega) (by have := D1.gl; have := D1.hg; omega)
        have o5' : w5.ownsRow (B + 1) 9 1 v5 (j + 1) (tc (ks.take (j + 1))) := by
          rw [HTk.out, tc_app]; exact o5
        have hb5 : ShAt w5 g (shc P.li P.ru P.us (.slice av j cv) (.slice at1 j ct)) := box_keep D1.blk k5 D1.gN
        refine lx_one 5 (by kernel_rfl) (stepT_val (w' := w5) v5 rfl rfl rfl (exec_appG rfl rfl rfl hrun5) (fun _ => hb5) ?_)
        simp only [lxa, lxb, lxc]
        have D6 := D1.name o5' k5 h5
        clear hrun5 o5 k5 h5 D2 D1 D0 HS0 hb1 cC
        obtain ⟨av5, cv5, hv⟩ := ownR_sl o5'
        subst hv
        have z5 := unfrozen_of_block hb5 3
        have q5 := sh3 hb5
        refine lx_rd 6 (.pointer (some ⟨g, 3, none⟩)) (by kernel_rfl) (fun _ _ d _ _ h => by cases d <;> exact h) (by kernel_rfl) hb5 rfl rfl rfl (fun w' hS => ?hG6) ?_
        case hG6 => first | (go_simp; rfl) | go_simp
        simp only [List.setIfInBounds_toArray, List.set_cons_zero, List.set_cons_succ]
        refine lx_one 7 (by kernel_rfl) (stepT_store (w' := w5.setCell ⟨g, 3, none⟩ (.slice av5 (j + 1) cv5)) rfl rfl rfl ?ri (fun h => by cases h) ?_)
        case ri => first | (go_simp; rfl) | go_simp
        refine lx_nil (by kernel_rfl) ?_
        clear hb5 z5 q5 o5'
        generalize w5.setCell ⟨g, 3, none⟩ _ = W6 at D6 ⊢
        have hLw : LsM W6 F q mb m P := HL.out.below (by rw [HB.out]; exact D6.bel)
        replace D6 : Hid _ := D6
        go_upto_region 6 with fail
        refine wp_region_lx (fun w' => ShAt w' g (shc P.li P.ru P.us (.slice av5 (j + 1) cv5) (.slice at1 j ct))) [8] 9 (by kernel_rfl) (by kernel_rfl) ?_
        have D7 := D6.out.below (Below.refl _ _).drew
        have hL7 := hLw.below (Below.refl _ _).drew
        clear D6 hLw
        generalize World.drew _ = Y at D7 hL7 ⊢
        have HS7 := D7.blk
        refine lx_rd 0 (.pointer (some ⟨g, 4, none⟩)) (by kernel_rfl) (fun _ _ d _ _ h => by cases d <;> exact h) (by kernel_rfl) HS7 rfl rfl rfl (fun w' hS => ?hI0) ?_
        case hI0 => first | (go_simp; rfl) | go_simp
        simp only [List.setIfInBounds_toArray, List.set_cons_zero, List.set_cons_succ]
        refine lx_rd 1 (.slice at1 j ct) (by kernel_rfl) (fun _ _ d _ _ h => by cases d <;> exact h) (by kernel_rfl) HS7 rfl rfl rfl (fun w' hS => ?hI1) ?_
        case hI1 => have q0 := sh4 hS; first | (go_simp; rfl) | go_simp
        simp only [List.setIfInBounds_toArray, List.set_cons_zero, List.set_cons_succ]
        refine lx_rd 2 (.pointer (some ⟨q, 0, none⟩)) (by kernel_rfl) (fun _ _ d _ _ h => by cases d <;> exact h) (by kernel_rfl) HS7 rfl rfl rfl (fun w' hS => ?hI2) ?_
        case hI2 => first | (go_simp; rfl) | go_simp
        simp only [List.setIfInBounds_toArray, List.set_cons_zero, List.set_cons_succ]
        refine lx_rd 3 (.string (ba y)) (by kernel_rfl) (fun _ _ d _ _ h => by cases d <;> exact h) (by kernel_rfl) HS7 rfl rfl rfl (fun w' hS => ?hI3) ?_
        case hI3 => first | (go_simp; rfl) | go_simp
        simp only [List.setIfInBounds_toArray, List.set_cons_zero, List.set_cons_succ]
        refine lx_one 4 (by kernel_rfl) (stepT_call 34 ?aj rfl rfl rfl ?rj ?_)
        case rj => first | (go_simp; rfl) | go_simp
        refine (ltexts_any y Y F q mb m P hL7 hyl _ rfl (HA.out.2.2.1 y) (HA.out.2.2.2 y)).mono ?_
        rintro e Y1 ⟨v, rfl, ov, hb8⟩
        have ov2 := ov
        rw [show ((P.m y).getD []).length = ((P.m y).getD []).length from rfl] at ov2
        obtain ⟨a8, c8, rfl, hT8⟩ := TRd.ofOwn ov2
        have D8 := D7.below hb8
        have hF8 : ∀ ad, a8 = some ad → B + 1 ≤ ad.block ∧ ad.block < Y1.heap.size ∧ (Value.slice av5 (j + 1) cv5).ownBlock ≠ some ad.block ∧ (Value.slice at1 j ct).ownBlock ≠ some ad.block ∧ ad.block ≠ g := fun ad e => by
          subst e
          have h1 := ov.lt ad.block rfl
          have h2 := D7.gl
          have h3 := D7.hg
          exact ⟨by omega, h1.2, fun e => by have := (D7.oN.lt _ e).2; omega, fun e => by have := (D7.oT.lt _ e).2; omega, by omega⟩
        have hY8 : ∀ ad, a8 = some ad → Ty Y1 ad.block := fun ad e => by subst e; exact own_ty ov
        refine ⟨_, rfl, fun _ => D8.blk, ?_⟩
        simp only [lxa, lxb, lxc]
        generalize ((P.m y).getD []).length = nn at *
        have D9 := D8.below (below1 Y1 (.cells #[.slice a8 nn c8] 32))
        refine lx_one 5 (by kernel_rfl) (stepT_val (w' := Y1.alloc (.cells #[.slice a8 nn c8] 32)) (.slice (some ⟨Y1.heap.size, 0, none⟩) 1 1) rfl rfl rfl ?rk (fun _ => D9.blk) ?_)
        case rk => first | (go_simp; rfl) | go_simp
        simp only [lxa, lxb, lxc]
        obtain ⟨v9, w9, hrun9, o9, k9, h9, _⟩ := run_appG 36 32 _ 24 Tryz.underlying36 infoStrsG (by decide) rfl (w := Y1) 36 D8.oT (.slice a8 nn c8) (by simp [Value.oneCell']) (by omega) (by have := D8.gl; have := D8.hg; omega)
        have hb9 : ShAt w9 g (shc P.li P.ru P.us (.slice av5 (j + 1) cv5) (.slice at1 j ct)) := box_keep D8.blk k9 D8.gT
        refine lx_one 6 (by kernel_rfl) (stepT_val (w' := w9) v9 rfl rfl rfl (exec_appG rfl rfl rfl hrun9) (fun _ => hb9) ?_)
        simp only [lxa, lxb, lxc]
        have D10 := D8.text o9 k9 h9 HTk.out hT8 hF8 hY8
        obtain ⟨av9, cv9, hv⟩ := ownR_sl o9
        subst hv
        clear hrun9 o9 k9 h9 D9 D8 D7 HS7 hb8 hL7 ov ov2 hT8 hF8 hY8
        have z9 := unfrozen_of_block hb9 4
        have q9 := sh4 hb9
        refine lx_rd 7 (.pointer (some ⟨g, 4, none⟩)) (by kernel_rfl) (fun _ _ d _ _ h => by cases d <;> exact h) (by kernel_rfl) hb9 rfl rfl rfl (fun w' hS => ?hK7) ?_
        case hK7 => first | (go_simp; rfl) | go_simp
        simp only [List.setIfInBounds_toArray, List.set_cons_zero, List.set_cons_succ]
        refine lx_one 8 (by kernel_rfl) (stepT_store (w' := w9.setCell ⟨g, 4, none⟩ (.slice av9 (j + 1) cv9)) rfl rfl rfl ?rl (fun h => by cases h) ?_)
        case rl => first | (go_simp; rfl) | go_simp
        refine lx_nil (by kernel_rfl) ?_
        clear hb9 z9 q9
        generalize w9.setCell ⟨g, 4, none⟩ _ = W9 at D10 ⊢
        replace D10 : Hid _ := D10
        go_wp2
        exact ⟨⟨j + 1, _, _, _, by go_num, by omega, D10⟩, by simp [intOf]; omega⟩
      · have hcl : ¬ (j : Int) < (N : Int) := by omega
        obtain rfl : j = N := by omega
        have hM := M.out
        obtain ⟨av, cv, hv⟩ := ownR_sl hM.oN
        subst hv
        obtain ⟨at1, ct, hv⟩ := ownR_sl hM.oT
        subst hv
        have hA9 : ShA ((wr).setRow B (shc P.li P.ru P.us (.slice av j cv) (.slice at1 j ct))) B P.li P.ru P.us ks (ks.map (textsK P)) (.agg (shc P.li P.ru P.us (.slice av j cv) (.slice at1 j ct))) := by
          have hk := rowK wr B (shc P.li P.ru P.us (.slice av j cv) (.slice at1 j ct))
          have e1 : ks.take j = ks := List.take_of_length_le (by rw [hlen.out]; exact Nat.le_refl _)
          have o1 := own_keep hM.oN hk (fun k e e2 => by have := (hM.oN.lt k e).1; omega)
          have o2 := own_keep hM.oT hk (fun k e e2 => by have := (hM.oT.lt k e).1; omega)
          have o3 := hM.rows.keep (G := fun i => B ≤ i ∧ (Value.slice av j cv).ownBlock ≠ some i ∧ (Value.slice at1 j ct).ownBlock ≠ some i) hk (fun i hi e => by have := hi.1; omega) (fun i hi => ⟨by have := hi.1; omega, hi.2.2.1, hi.2.2.2.1⟩)
          rw [e1] at o1 o3
          refine ⟨_, _, vs, rfl, ?_, ?_, o3⟩
          · rw [hlen.out]; exact own_weak o1 (by omega)
          · rw [List.length_map, hlen.out]; exact own_weak o2 (by omega)
        have hB9 : Below B w ((wr).setRow B (shc P.li P.ru P.us (.slice av j cv) (.slice at1 j ct))) := hM.bel.trans ((rowK wr B _).below (by have := hM.gl; have := hM.hg; omega) (fun k e => by omega))
        replace hA9 : Hid _ := hA9
        replace hB9 : Hid _ := hB9
        clear hM
        go_wp2_with (first
          | (refine wp_load_sh rfl (.tmp 3) rfl g rfl _ rfl M.out.blk ?_)
          | (refine wp_store_sh rfl (.tmp 2) (.tmp 47) rfl B rfl (shc P.li P.ru P.us (.slice av j cv) (.slice at1 j ct)) rfl (by simp [shc, Value.oneCell']) rfl shZ rfl M.out.res ?_))
        refine bodyPost_ret (v := .agg (shc P.li P.ru P.us (.slice av j cv) (.slice at1 j ct))) ?_ rfl ⟨_, rfl, ?_, ?_⟩
        · exact res_sh rfl _ _ B _ rfl rfl (setRow_heap _ B _ _ 38 (0, 0) M.out.res)
        · rw [Hks.out, HB.out]; exact hA9.out
        · rw [HB.out]; exact hB9.out
end Go.Proofs.YtiplalbicibahaaGreatDoor

/- privacy: the document's lists in memory; New, Has, Default. -/
set_option maxRecDepth 100000
namespace Go.Proofs.YtiplalbicibahaaGreatDoor
open Go.RowKit Go.Joins Go.Shelf

/-- The rows of a row of rules; F: where they lie. -/
structure Vq (w : World) (vs : List Value) (rss : List (List Rul)) (F : Nat → Prop) : Prop where
  len : vs.length = rss.length
  row : ∀ j v, vs[j]? = some v → ∃ f : Rw, v = rsl f ∧ RRd w f (rss.getD j []) ∧ ∀ g, f.1 = some g → F g
theorem Vq.nil (w : World) (F : Nat → Prop) : Vq w [] [] F := ⟨rfl, fun j v h => by cases h⟩
theorem Vq.keep {S F G : Nat → Prop} {w w' : World} {vs : List Value} {rss : List (List Rul)} (h : Vq w vs rss F) (hk : Keep S w w') (hs : ∀ i, F i → ¬ S i) (hg : ∀ i, F i → G i) : Vq w' vs rss G :=
  ⟨h.len, fun j v hv => by
    obtain ⟨f, e, ht, hf⟩ := h.row j v hv
    exact ⟨f, e, ht.keep hk (fun g e2 => hs _ (hf g e2)), fun g e2 => hg _ (hf g e2)⟩⟩
def qlc (P : Pl) (vN vT vR : Value) : Array Value := #[.int .i64 P.li, .int .i64 P.ru, .string (ba P.us), vN, vT, vR]
/-- The document's lists at q (F: its footprint): they stand for P. -/
structure QM (w : World) (F : Nat → Prop) (q : Nat) (P : Pl) (vN vT vR : Value) (vs us : List Value) : Prop where
  blk : w.heap[q]? = some (.cells (qlc P vN vT vR) 57 (0, 0))
  oN : w.ownsRow 0 9 1 vN (sortK P.ks).length (tc (sortK P.ks))
  oT : w.ownsRow 0 32 1 vT (sortK P.ks).length vs
  oR : w.ownsRow 0 68 1 vR (sortK P.ks).length us
  rT : Vr w vs ((sortK P.ks).map (textsK P)) (fun i => F i ∧ i ≠ q ∧ vT.ownBlock ≠ some i ∧ vR.ownBlock ≠ some i)
  rR : Vq w us ((sortK P.ks).map fun k => (P.m k).getD []) (fun i => F i ∧ i ≠ q ∧ vT.ownBlock ≠ some i ∧ vR.ownBlock ≠ some i)
  fq : F q
  fN : ∀ i, vN.ownBlock = some i → F i
  fT : ∀ i, vT.ownBlock = some i → F i
  fR : ∀ i, vR.ownBlock = some i → F i
  lt : ∀ i, F i → i < w.heap.size
  nd : P.ks.Nodup
  mem : ∀ s, (P.m s).isSome = true ↔ s ∈ P.ks
def QAt (w : World) (F : Nat → Prop) (q : Nat) (P : Pl) : Prop := ∃ vN vT vR vs us, QM w F q P vN vT vR vs us
section
variable {w w' : World} {F : Nat → Prop} {q : Nat} {P : Pl} {vN vT vR : Value} {vs us : List Value}
theorem QM.c0 (h : QM w F q P vN vT vR vs us) : w.cell? ⟨q, 0, none⟩ = some (.int .i64 P.li) := by rw [cell_of_block h.blk]; rfl
theorem QM.c1 (h : QM w F q P vN vT vR vs us) : w.cell? ⟨q, 1, none⟩ = some (.int .i64 P.ru) := by rw [cell_of_block h.blk]; rfl
theorem QM.c2 (h : QM w F q P vN vT vR vs us) : w.cell? ⟨q, 2, none⟩ = some (.string (ba P.us)) := by rw [cell_of_block h.blk]; rfl
theorem QM.c3 (h : QM w F q P vN vT vR vs us) : w.cell? ⟨q, 3, none⟩ = some vN := by rw [cell_of_block h.blk]; rfl
theorem QM.c4 (h : QM w F q P vN vT vR vs us) : w.cell? ⟨q, 4, none⟩ = some vT := by rw [cell_of_block h.blk]; rfl
theorem QM.c5 (h : QM w F q P vN vT vR vs us) : w.cell? ⟨q, 5, none⟩ = some vR := by rw [cell_of_block h.blk]; rfl
theorem QM.fz (h : QM w F q P vN vT vR vs us) (i : Nat) : w.frozen? ⟨q, i, none⟩ = false := unfrozen_of_block h.blk i
theorem QM.keep {S : Nat → Prop} (h : QM w F q P vN vT vR vs us) (hk : Keep S w w') (hs : ∀ i, F i → ¬ S i) : QM w' F q P vN vT vR vs us :=
  ⟨box_keep h.blk hk (hs q h.fq), own_keep h.oN hk (fun k e => hs k (h.fN k e)), own_keep h.oT hk (fun k e => hs k (h.fT k e)), own_keep h.oR hk (fun k e => hs k (h.fR k e)), h.rT.keep hk (fun i hi => hs i hi.1) (fun _ hi => hi), h.rR.keep hk (fun i hi => hs i hi.1) (fun _ hi => hi), h.fq, h.fN, h.fT, h.fR, fun i hi => Nat.lt_of_lt_of_le (h.lt i hi) hk.size, h.nd, h.mem⟩
theorem QM.below (h : QM w F q P vN vT vR vs us) (hb : Below w.heap.size w w') : QM w' F q P vN vT vR vs us := h.keep (S := fun _ => False) (Keep.ofBelow hb) (fun _ _ h => h)
theorem QAt.keep {S : Nat → Prop} (h : QAt w F q P) (hk : Keep S w w') (hs : ∀ i, F i → ¬ S i) : QAt w' F q P := by
  obtain ⟨vN, vT, vR, vs, us, h⟩ := h; exact ⟨vN, vT, vR, vs, us, h.keep hk hs⟩
theorem QAt.below (h : QAt w F q P) (hb : Below w.heap.size w w') : QAt w' F q P := h.keep (S := fun _ => False) (Keep.ofBelow hb) (fun _ _ h => h)
/-- Is the name there? The list says it as the map does. -/
theorem QM.is (h : QM w F q P vN vT vR vs us) (s : By) : atB (sortK P.ks) s = (P.m s).isSome := by
  have h1 : atB (sortK P.ks) s = true ↔ (P.m s).isSome = true := by rw [at_mem (asc_sortK h.nd), sortK_mem, h.mem]
  cases hb : (P.m s).isSome with
  | true => exact h1.2 hb
  | false =>
    cases ha : atB (sortK P.ks) s with
    | false => rfl
    | true => rw [h1.1 ha] at hb; cases hb
end

/-! ### New -/
theorem qnew_ok (l r : Int) (w : World) (hl : bnd l = true) (hr : bnd r = true) : Calls Tryz.prog 7 #[.int .i64 l, .int .i64 r] w fun e w' => e = .returned (.tuple #[.pointer (some ⟨w.heap.size, 0, none⟩), .bool true]) ∧ QAt w' (fun i => i = w.heap.size) w.heap.size (pl0 l r) ∧ Below w.heap.size w w' := by
  unfold bnd at hl hr
  simp only [Bool.and_eq_true, decide_eq_true_eq] at hl hr
  obtain ⟨l1, l2⟩ := hl
  obtain ⟨r1, r2⟩ := hr
  have l3 : ¬ l < 0 := by omega
  have l4 : ¬ 1000 < l := by omega
  have r3 : ¬ r < 0 := by omega
  have r4 : ¬ 1000 < r := by omega
  have e0 : sortK (pl0 l r).ks = [] := List.eq_nil_of_length_eq_zero (sortK_len _)
  have HQ : Hid (QAt (w.alloc (.cells (qlc (pl0 l r) (.slice none 0 0) (.slice none 0 0) (.slice none 0 0)) 57)) (fun i => i = w.heap.size) w.heap.size (pl0 l r)) :=
    ⟨_, _, _, [], [], ⟨push_at _ _ rfl, by rw [e0]; exact World.ownsRow_nil .., by rw [e0]; exact World.ownsRow_nil .., by rw [e0]; exact World.ownsRow_nil .., by rw [e0]; exact Vr.nil _ _, by rw [e0]; exact Vq.nil _ _, rfl, (fun i e => by cases e), (fun i e => by cases e), (fun i e => by cases e), fun i hi => by show i < _; rw [show i = w.heap.size from hi]; simp, List.nodup_nil, fun s => by simp [pl0]⟩⟩
  go_enter Tryz.func7, Tryz.ntmps7
  go_wp2
  go_ret2
  exact ⟨rfl, HQ.out, below1 _ _⟩
theorem qnew_bad (l r : Int) (w : World) (h : (bnd l && bnd r) = false) : Calls Tryz.prog 7 #[.int .i64 l, .int .i64 r] w fun e w' => e = .returned (.tuple #[.pointer none, .bool false]) ∧ w' = w := by
  have hc : l < 0 ∨ (¬ l < 0 ∧ 1000 < l) ∨ (¬ l < 0 ∧ ¬ 1000 < l ∧ r < 0) ∨ (¬ l < 0 ∧ ¬ 1000 < l ∧ ¬ r < 0 ∧ 1000 < r) := by
    unfold bnd at h
    simp only [Bool.and_eq_false_iff, decide_eq_false_iff_not] at h
    omega
  clear h
  rcases hc with h1 | ⟨h1, h2⟩ | ⟨h1, h2, h3⟩ | ⟨h1, h2, h3, h4⟩
  all_goals
    go_enter Tryz.func7, Tryz.ntmps7
    go_wp2
    go_ret2
    exact ⟨rfl, rfl⟩

/-! ### Has -/
theorem qat_m {w : World} {F : Nat → Prop} {q : Nat} {P : Pl} {vN vT vR : Value} {vs us : List Value} (h : QM w F q P vN vT vR vs us) (s : By) :
    Calls Tryz.prog 42 #[.pointer (some ⟨q, 0, none⟩), .string (ba s)] w fun e w' => e = .returned (.tuple #[.int .i64 (atK (sortK P.ks) s : Nat), .bool (P.m s).isSome]) ∧ Below w.heap.size w w' := by
  obtain ⟨a, c, e, ht⟩ := TRd.ofOwn h.oN
  have := qat_any q s a _ c (sortK P.ks) w (by rw [h.c3, e]) ht
  rw [h.is s] at this
  exact this
theorem qhas_any (s : By) (w : World) (F : Nat → Prop) (q : Nat) (P : Pl) (h : QAt w F q P) : Calls Tryz.prog 30 #[.pointer (some ⟨q, 0, none⟩), .string (ba s)] w fun e w' => e = .returned (.bool (P.m s).isSome) ∧ Below w.heap.size w w' := by
  obtain ⟨vN, vT, vR, vs, us, h⟩ := h
  have cA := qat_m h s
  go_enter Tryz.func30, Tryz.ntmps30
  go_wp2_with (go_at_call 42; refine cA.mono ?_; clear cA; rintro e w1 ⟨rfl, hb⟩)
  go_ret
  exact ⟨rfl, hb⟩

/-! ### Default -/
theorem QM.usual {w : World} {F : Nat → Prop} {q : Nat} {P : Pl} {vN vT vR : Value} {vs us : List Value} (h : QM w F q P vN vT vR vs us) (s : By) : QM (w.setCell ⟨q, 2, none⟩ (.string (ba s))) F q { P with us := s } vN vT vR vs us := by
  have hk := setK w q 2 (.string (ba s))
  have hb : (w.setCell ⟨q, 2, none⟩ (.string (ba s))).heap[q]? = some (.cells (qlc { P with us := s } vN vT vR) 57 (0, 0)) := block_setCell (i := 2) h.blk (.string (ba s))
  have hne : ∀ {e : TypeId} {v : Value} {n : Nat} {xs : List Value}, e ≠ 57 → w.ownsRow 0 e 1 v n xs → ∀ k, v.ownBlock = some k → ¬ k = q := fun {e v n xs} hty ho k hk2 e2 => by
    subst e2
    rcases ho.2 with ⟨rfl, _⟩ | ⟨g, cap, cur, rfl, _, hh, _⟩
    · cases hk2
    · injection hk2 with hk2
      subst hk2
      have := h.blk
      dsimp only at this
      rw [hh] at this
      injection this with this
      injection this with _ t2 _
      exact hty t2
  exact ⟨hb, own_keep h.oN hk (hne (by decide) h.oN), own_keep h.oT hk (hne (by decide) h.oT), own_keep h.oR hk (hne (by decide) h.oR), h.rT.keep hk (fun _ hi => hi.2.1) (fun _ hi => hi), h.rR.keep hk (fun _ hi => hi.2.1) (fun _ hi => hi), h.fq, h.fN, h.fT, h.fR, fun i hi => Nat.lt_of_lt_of_le (h.lt i hi) hk.size, h.nd, h.mem⟩
set_option maxHeartbeats 1600000 in
theorem qdefault_any (s : By) (w : World) (F : Nat → Prop) (q : Nat) (P : Pl) (h : QAt w F q P) :
    Calls Tryz.prog 27 #[.pointer (some ⟨q, 0, none⟩), .string (ba s)] w fun e w' => e = .returned (.int .i64 ((defaultR P s).1 : Nat)) ∧ QAt w' F q (defaultR P s).2 ∧ Keep F w w' := by
  obtain ⟨vN, vT, vR, vs, us, h⟩ := h
  have cA := qat_m h s
  have HH : Hid (QM w F q P vN vT vR vs us) := h
  have e1 : (ba s).toList.isEmpty = s.isEmpty := by rw [Lib.toList_data, ba_list]
  unfold defaultR
  clear h
  generalize s.isEmpty = b1 at e1 ⊢
  generalize (P.m s).isSome = b2 at cA ⊢
  generalize ((atK (sortK P.ks) s : Nat) : Int) = kk at cA
  cases b1 <;> cases b2
  case false.false =>
    rw [if_pos (by decide)]
    go_enter Tryz.func27, Tryz.ntmps27
    go_wp2_with (go_at_call 42; refine cA.mono ?_; clear cA; rintro e w1 ⟨rfl, hb⟩)
    go_ret
    exact ⟨rfl, ⟨vN, vT, vR, vs, us, HH.out.below hb⟩, Keep.ofBelow hb⟩
  all_goals
    rw [if_neg (by decide)]
    go_enter Tryz.func27, Tryz.ntmps27
    go_wp2_with (go_at_call 42; refine cA.mono ?_; clear cA; rintro e w1 ⟨rfl, hb⟩; have H1 : Hid (QM w1 F q P vN vT vR vs us) := HH.out.below hb; have u2 := H1.out.c2; have fu := H1.out.fz 2)
    go_ret
    exact ⟨rfl, ⟨vN, vT, vR, vs, us, H1.out.usual s⟩, (Keep.ofBelow hb).trans ((setK w1 q 2 _).mono (fun i e => by rw [e]; exact HH.out.fq))⟩
end Go.Proofs.YtiplalbicibahaaGreatDoor

/- privacy: two shelves that read the same are the same to the law. -/
set_option maxRecDepth 100000
namespace Go.Proofs.YtiplalbicibahaaGreatDoor
open Go.RowKit Go.Joins Go.Shelf

/-- What a slice of rows of texts reads as. -/
structure TTd (w : World) (a : Option Addr) (n c : Nat) (tss : List (List By)) : Prop where
  len : tss.length = n
  cap : n ≤ c
  most : c ≤ maxLen
  flat : 0 < n → ∃ b off, a = some ⟨b, off, none⟩ ∧ ∀ j, j < n → ∃ a2 n2 c2, w.cell? ⟨b, off + j, none⟩ = some (.slice a2 n2 c2) ∧ TRd w a2 n2 c2 (tss.getD j [])
theorem TTd.below {w w' : World} {a : Option Addr} {n c : Nat} {tss : List (List By)} (h : TTd w a n c tss) (hb : Below w.heap.size w w') : TTd w' a n c tss :=
  ⟨h.len, h.cap, h.most, fun h0 => by
    obtain ⟨b, off, e, hc⟩ := h.flat h0
    exact ⟨b, off, e, fun j hj => by
      obtain ⟨a2, n2, c2, h1, h2⟩ := hc j hj
      exact ⟨a2, n2, c2, (hb.cell (World.block_lt_of_cell? w _ h1)).trans h1, h2.below hb⟩⟩⟩
theorem TTd.ofOwn {w : World} {B : Nat} {v : Value} {n : Nat} {vs : List Value} {tss : List (List By)} {F : Nat → Prop} (h : w.ownsRow B 32 1 v n vs) (hr : Vr w vs tss F) (hn : tss.length = n) : ∃ a c, v = .slice a n c ∧ TTd w a n c tss := by
  have hl := hr.len
  rcases h.2 with ⟨rfl, rfl⟩ | ⟨g, cap, cur, hv, hg, hh, hnc, hm, hsz, ht⟩
  · exact ⟨none, 0, rfl, hn, Nat.le_refl _, by unfold maxLen; omega, fun h => by omega⟩
  · subst hv
    refine ⟨some ⟨g, 0, none⟩, cap, rfl, hn, hnc, hm, fun h0 => ⟨g, 0, rfl, fun j hj => ?_⟩⟩
    obtain ⟨y, hy⟩ : ∃ y, vs[j]? = some y := ⟨_, List.getElem?_eq_getElem (by omega)⟩
    obtain ⟨a2, n2, c2, rfl, h2, _⟩ := hr.row j y hy
    have hcell := h.cells (g := g) rfl j _ hy
    rw [add_flat] at hcell
    exact ⟨a2, n2, c2, hcell, h2⟩
/-- What a shelf reads as. -/
def ShR (w : World) (S : Value) (li ru : Int) (us : By) (ns : List By) (tss : List (List By)) : Prop :=
  ∃ a n c a2 n2 c2, S = .agg (shc li ru us (.slice a n c) (.slice a2 n2 c2)) ∧ TRd w a n c ns ∧ TTd w a2 n2 c2 tss
theorem ShA.read {w : World} {B : Nat} {li ru : Int} {us : By} {ns : List By} {tss : List (List By)} {S : Value} (h : ShA w B li ru us ns tss S) : ShR w S li ru us ns tss := by
  obtain ⟨vN, vT, vs, rfl, h1, h2, h3⟩ := h
  obtain ⟨a, c, rfl, t1⟩ := TRd.ofOwn h1
  obtain ⟨a2, c2, rfl, t2⟩ := TTd.ofOwn h2 h3 rfl
  exact ⟨a, _, c, a2, _, c2, rfl, t1, t2⟩
theorem ShR.below {w w' : World} {S : Value} {li ru : Int} {us : By} {ns : List By} {tss : List (List By)} (h : ShR w S li ru us ns tss) (hb : Below w.heap.size w w') : ShR w' S li ru us ns tss := by
  obtain ⟨a, n, c, a2, n2, c2, e, h1, h2⟩ := h
  exact ⟨a, n, c, a2, n2, c2, e, h1.below hb, h2.below hb⟩
set_option maxHeartbeats 3200000 in
theorem sameShelf_any (w : World) (S1 S2 : Value) (li ru : Int) (us : By) (ns : List By) (tss : List (List By)) (h1 : ShR w S1 li ru us ns tss) (h2 : ShR w S2 li ru us ns tss) :
    Calls Tryz.prog 10 #[S1, S2] w fun e w' => e = .returned (.bool true) ∧ Below w.heap.size w w' := by
  obtain ⟨a, n, c, x, m, d, rfl, t1, r1⟩ := h1
  obtain ⟨a', n', c', x', m', d', rfl, t2, r2⟩ := h2
  have hm1 := r1.len
  have hm2 := r2.len
  obtain rfl : m = m' := by omega
  have e0 : ((ba us).toList == (ba us).toList) = true := by simp
  have f1 : (li != li) = false := by simp
  have f2 : (ru != ru) = false := by simp
  have f3 : ((m : Int) != (m : Int)) = false := by simp
  have hcap := r1.cap
  have hmost := r1.most
  unfold maxLen at hmost
  have cS := fun w' (hb : Below w.heap.size w w') => same_any a n c ns a' n' c' ns w' (t1.below hb) (t2.below hb)
  replace cS : Hid _ := cS
  have HR : Hid (TTd w x m d tss ∧ TTd w x' m d' tss) := ⟨r1, r2⟩
  have HX : Hid (ShAt ((w.alloc (.cells (shc li ru us (.slice a n c) (.slice x m d)) 38)).alloc (.cells (shc li ru us (.slice a' n' c') (.slice x' m d')) 38)) w.heap.size (shc li ru us (.slice a n c) (.slice x m d)) ∧ ShAt ((w.alloc (.cells (shc li ru us (.slice a n c) (.slice x m d)) 38)).alloc (.cells (shc li ru us (.slice a' n' c') (.slice x' m d')) 38)) (w.heap.size + 1) (shc li ru us (.slice a' n' c') (.slice x' m d')) ∧ Below w.heap.size w ((w.alloc (.cells (shc li ru us (.slice a n c) (.slice x m d)) 38)).alloc (.cells (shc li ru us (.slice a' n' c') (.slice x' m d')) 38))) :=
    ⟨push_old (push_at _ _ rfl), push_at _ _ (by simp), below2 w _ _⟩
  clear t1 t2 r1 r2 hm1 hm2
  unfold shc at HX ⊢
  go_enter Tryz.func10, Tryz.ntmps10
  go_upto_region 1 with fail
  generalize (w.alloc _).alloc _ = X at HX ⊢
  obtain ⟨B, HB⟩ : ∃ B, Hid (w.heap.size = B) := ⟨_, rfl⟩
  rw [HB.out] at HX cS ⊢
  have p0 : X.cell? ⟨B, 0, none⟩ = some (.int .i64 li) := by rw [cell_of_block HX.out.1]; rfl
  have p1 : X.cell? ⟨B, 1, none⟩ = some (.int .i64 ru) := by rw [cell_of_block HX.out.1]; rfl
  have p2 : X.cell? ⟨B, 2, none⟩ = some (.string (ba us)) := by rw [cell_of_block HX.out.1]; rfl
  have p3 : X.cell? ⟨B, 3, none⟩ = some (.slice a n c) := by rw [cell_of_block HX.out.1]; rfl
  have q0 : X.cell? ⟨B + 1, 0, none⟩ = some (.int .i64 li) := by rw [cell_of_block HX.out.2.1]; rfl
  have q1 : X.cell? ⟨B + 1, 1, none⟩ = some (.int .i64 ru) := by rw [cell_of_block HX.out.2.1]; rfl
  have q2 : X.cell? ⟨B + 1, 2, none⟩ = some (.string (ba us)) := by rw [cell_of_block HX.out.2.1]; rfl
  have q3 : X.cell? ⟨B + 1, 3, none⟩ = some (.slice a' n' c') := by rw [cell_of_block HX.out.2.1]; rfl
  go_upto_region 4 with (go_at_call 20; refine (cS.out _ HX.out.2.2).mono ?_; rintro e w1 ⟨rfl, hb1⟩; have p4 : w1.cell? ⟨B, 4, none⟩ = some (.slice x m d) := (by rw [cell_of_block (box_below HX.out.1 hb1)]; rfl); have q4 : w1.cell? ⟨B + 1, 4, none⟩ = some (.slice x' m d') := (by rw [cell_of_block (box_below HX.out.2.1 hb1)]; rfl))
  have H1 : Hid (ShAt w1 B #[.int .i64 li, .int .i64 ru, .string (ba us), .slice a n c, .slice x m d] ∧ ShAt w1 (B + 1) #[.int .i64 li, .int .i64 ru, .string (ba us), .slice a' n' c', .slice x' m d'] ∧ Below B w w1) :=
    ⟨box_below HX.out.1 hb1, box_below HX.out.2.1 hb1, HX.out.2.2.trans (hb1.mono (by have := HX.out.2.2.size; have := HB.out; omega))⟩
  clear p0 p1 p2 p3 q0 q1 q2 q3 p4 q4 hb1 HX cS
  go_loopw [5] (fun s5 wr => ∃ j : Nat, s5 = .int .i64 (j : Int) ∧ j ≤ m ∧ Hid (ShAt wr B #[.int .i64 li, .int .i64 ru, .string (ba us), .slice a n c, .slice x m d] ∧ ShAt wr (B + 1) #[.int .i64 li, .int .i64 ru, .string (ba us), .slice a' n' c', .slice x' m d'] ∧ Below B w wr)) (fun s5 _ => m - (intOf s5).toNat)
  case atStart => exact ⟨0, rfl, by omega, H1⟩
  case round =>
    obtain ⟨j, rfl, hj, HJ⟩ := hrel
    clear H1
    have p4 : wr.cell? ⟨B, 4, none⟩ = some (.slice x m d) := by rw [cell_of_block HJ.out.1]; rfl
    have q4 : wr.cell? ⟨B + 1, 4, none⟩ = some (.slice x' m d') := by rw [cell_of_block HJ.out.2.1]; rfl
    by_cases hlt : j < m
    · have hcl : (j : Int) < (m : Int) := by omega
      have hbw : Below w.heap.size w wr := by rw [HB.out]; exact HJ.out.2.2
      obtain ⟨b, off, rfl, hc1⟩ := (HR.out.1.below hbw).flat (by omega)
      obtain ⟨b2, off2, rfl, hc2⟩ := (HR.out.2.below hbw).flat (by omega)
      obtain ⟨y1, k1, l1, y2, y3⟩ := hc1 j hlt
      obtain ⟨z1, k2, l2, z2, z3⟩ := hc2 j hlt
      have cS := same_any y1 k1 l1 _ z1 k2 l2 _ wr.drew (y3.below (Below.refl _ _).drew) (z3.below (Below.refl _ _).drew)
      rw [beq_self_eq_true] at cS
      clear hc1 hc2 y3 z3 hbw
      have hj0 : (0 : Int) ≤ (j : Int) := by omega
      go_upto_region 6 with fail
      refine wp_region_lx (fun w' => (w'.cell? ⟨B, 4, none⟩ = some (.slice (some ⟨b, off, none⟩) m d) ∧ w'.cell? ⟨B + 1, 4, none⟩ = some (.slice (some ⟨b2, off2, none⟩) m d')) ∧ w'.cell? ⟨b, off + j, none⟩ = some (.slice y1 k1 l1) ∧ w'.cell? ⟨b2, off2 + j, none⟩ = some (.slice z1 k2 l2)) [] 12 (by kernel_rfl) (by kernel_rfl) ?_
      have HS0 : (wr.drew.cell? ⟨B, 4, none⟩ = some (.slice (some ⟨b, off, none⟩) m d) ∧ wr.drew.cell? ⟨B + 1, 4, none⟩ = some (.slice (some ⟨b2, off2, none⟩) m d')) ∧ wr.drew.cell? ⟨b, off + j, none⟩ = some (.slice y1 k1 l1) ∧ wr.drew.cell? ⟨b2, off2 + j, none⟩ = some (.slice z1 k2 l2) := ⟨⟨p4, q4⟩, y2, z2⟩
      have HD : Hid (ShAt wr.drew B #[.int .i64 li, .int .i64 ru, .string (ba us), .slice a n c, .slice (some ⟨b, off, none⟩) m d] ∧ ShAt wr.drew (B + 1) #[.int .i64 li, .int .i64 ru, .string (ba us), .slice a' n' c', .slice (some ⟨b2, off2, none⟩) m d'] ∧ Below B w wr.drew) := ⟨HJ.out.1, HJ.out.2.1, HJ.out.2.2.drew⟩
      clear p4 q4 y2 z2 HJ
      generalize World.drew _ = X at HD HS0 cS ⊢
      refine lx_rd 0 (.pointer (some ⟨B, 4, none⟩)) (by kernel_rfl) (fun _ _ d _ _ h => by cases d <;> exact h) (by kernel_rfl) HS0 rfl rfl rfl (fun w' hS => ?hA0) ?_
      case hA0 => first | (go_simp; rfl) | go_simp
      simp only [List.setIfInBounds_toArray, List.set_cons_zero, List.set_cons_succ]
      refine lx_rd 1 (.slice (some ⟨b, off, none⟩) m d) (by kernel_rfl) (fun _ _ d _ _ h => by cases d <;> exact h) (by kernel_rfl) HS0 rfl rfl rfl (fun w' hS => ?hA1) ?_
      case hA1 => have q0 := hS.1.1; first | (go_simp; rfl) | go_simp
      simp only [List.setIfInBounds_toArray, List.set_cons_zero, List.set_cons_succ]
      refine lx_rd 2 (.int .i64 (j : Int)) (by kernel_rfl) (fun _ _ d _ _ h => by cases d <;> exact h) (by kernel_rfl) HS0 rfl rfl rfl (fun w' hS => ?hA2) ?_
      case hA2 => first | (go_simp; rfl) | go_simp
      simp only [List.setIfInBounds_toArray, List.set_cons_zero, List.set_cons_succ]
      refine lx_rd 3 (.pointer (some ⟨b, off + j, none⟩)) (by kernel_rfl) (fun _ _ d _ _ h => by cases d <;> exact h) (by kernel_rfl) HS0 rfl rfl rfl (fun w' hS => ?hA3) ?_
      case hA3 => first | (go_simp; rfl) | go_simp
      simp only [List.setIfInBounds_toArray, List.set_cons_zero, List.set_cons_succ]
      refine lx_rd 4 (.slice y1 k1 l1) (by kernel_rfl) (fun _ _ d _ _ h => by cases d <;> exact h) (by kernel_rfl) HS0 rfl rfl rfl (fun w' hS => ?hA4) ?_
      case hA4 => have q0 := hS.2.1; first | (go_simp; rfl) | go_simp
      simp only [List.setIfInBounds_toArray, List.set_cons_zero, List.set_cons_succ]
      refine lx_rd 5 (.pointer (some ⟨B + 1, 4, none⟩)) (by kernel_rfl) (fun _ _ d _ _ h => by cases d <;> exact h) (by kernel_rfl) HS0 rfl rfl rfl (fun w' hS => ?hA5) ?_
      case hA5 => first | (go_simp; rfl) | go_simp
      simp only [List.setIfInBounds_toArray, List.set_cons_zero, List.set_cons_succ]
      refine lx_rd 6 (.slice (some ⟨b2, off2, none⟩) m d') (by kernel_rfl) (fun _ _ d _ _ h => by cases d <;> exact h) (by kernel_rfl) HS0 rfl rfl rfl (fun w' hS => ?hA6) ?_
      case hA6 => have q0 := hS.1.2; first | (go_simp; rfl) | go_simp
      simp only [List.setIfInBounds_toArray, List.set_cons_zero, List.set_cons_succ]
      refine lx_rd 7 (.int .i64 (j : Int)) (by kernel_rfl) (fun _ _ d _ _ h => by cases d <;> exact h) (by kernel_rfl) HS0 rfl rfl rfl (fun w' hS => ?hA7) ?_
      case hA7 => first | (go_simp; rfl) | go_simp
      simp only [List.setIfInBounds_toArray, List.set_cons_zero, List.set_cons_succ]
      refine lx_rd 8 (.pointer (some ⟨b2, off2 + j, none⟩)) (by kernel_rfl) (fun _ _ d _ _ h => by cases d <;> exact h) (by kernel_rfl) HS0 rfl rfl rfl (fun w' hS => ?hA8) ?_
      case hA8 => first | (go_simp; rfl) | go_simp
      simp only [List.setIfInBounds_toArray, List.set_cons_zero, List.set_cons_succ]
      refine lx_rd 9 (.slice z1 k2 l2) (by kernel_rfl) (fun _ _ d _ _ h => by cases d <;> exact h) (by kernel_rfl) HS0 rfl rfl rfl (fun w' hS => ?hA9) ?_
      case hA9 => have q0 := hS.2.2; first | (go_simp; rfl) | go_simp
      simp only [List.setIfInBounds_toArray, List.set_cons_zero, List.set_cons_succ]
      refine lx_one 10 (by kernel_rfl) (stepT_call 20 ?ac rfl rfl rfl ?rc ?_)
      case rc => first | (go_simp; rfl) | go_simp
      refine cS.mono ?_
      clear cS
      rintro e X1 ⟨rfl, hb1⟩
      have hc : ∀ {p : Addr} {u : Value}, X.cell? p = some u → X1.cell? p = some u := fun {p u} h => (hb1.cell (World.block_lt_of_cell? X _ h)).trans h
      have HS1 : (X1.cell? ⟨B, 4, none⟩ = some (.slice (some ⟨b, off, none⟩) m d) ∧ X1.cell? ⟨B + 1, 4, none⟩ = some (.slice (some ⟨b2, off2, none⟩) m d')) ∧ X1.cell? ⟨b, off + j, none⟩ = some (.slice y1 k1 l1) ∧ X1.cell? ⟨b2, off2 + j, none⟩ = some (.slice z1 k2 l2) := ⟨⟨hc HS0.1.1, hc HS0.1.2⟩, hc HS0.2.1, hc HS0.2.2⟩
      refine ⟨_, rfl, fun _ => HS1, ?_⟩
      simp only [lxa, lxb, lxc]
      refine lx_rd 11 (.bool false) (by kernel_rfl) (fun _ _ d _ _ h => by cases d <;> exact h) (by kernel_rfl) HS1 rfl rfl rfl (fun w' hS => ?hD11) ?_
      case hD11 => first | (go_simp; rfl) | go_simp
      simp only [List.setIfInBounds_toArray, List.set_cons_zero, List.set_cons_succ]
      refine lx_nil (by kernel_rfl) ?_
      have H2 : Hid (ShAt X1 B #[.int .i64 li, .int .i64 ru, .string (ba us), .slice a n c, .slice (some ⟨b, off, none⟩) m d] ∧ ShAt X1 (B + 1) #[.int .i64 li, .int .i64 ru, .string (ba us), .slice a' n' c', .slice (some ⟨b2, off2, none⟩) m d'] ∧ Below B w X1) := ⟨box_below HD.out.1 hb1, box_below HD.out.2.1 hb1, HD.out.2.2.trans (hb1.mono (by have := HD.out.2.2.size; have := HB.out; omega))⟩
      clear HS0 HS1 hc hb1 HD
      go_wp2
      exact ⟨⟨j + 1, by go_num, by omega, H2⟩, by simp [intOf]; omega⟩
    · have hcl : ¬ (j : Int) < (m : Int) := by omega
      go_wp2
      go_ret
      exact ⟨rfl, by rw [HB.out]; exact HJ.out.2.2⟩
end Go.Proofs.YtiplalbicibahaaGreatDoor

/- privacy: Shelf, as the document tells it. -/
set_option maxRecDepth 100000
namespace Go.Proofs.YtiplalbicibahaaGreatDoor
open Go.RowKit Go.Joins Go.Shelf

theorem run_appSg {w : World} (ty : TypeId) {base : Nat} {v : Value} {n : Nat} {xs : List By} (hown : w.ownsRow base 9 1 v n (tc xs)) {ao : Option Addr} {m c : Nat} {ys : List By} (hr : TRd w ao m c ys) (hb : n + m ≤ 1000000) (hbase : base ≤ w.heap.size) :
    ∃ v' w', (Builtin.append_ #[32, 32] ty #[v, .slice ao m c]).run Tryz.prog w = .ok v' w' ∧ w'.ownsRow base 9 1 v' (n + m) (tc (xs ++ ys)) ∧ Keep (fun k => v.ownBlock = some k) w w' := by
  obtain ⟨i0, hi, hz0, hz1, hz2⟩ := info_parts infoStr1
  cases ao with
  | none =>
    have hc0 := hr.nil0 rfl
    have hm : m = 0 := by have := hr.cap; omega
    subst hc0 hm
    have hys : ys = [] := List.eq_nil_of_length_eq_zero hr.len
    subst hys
    exact ⟨v, w, run_append_owned_none w base 32 ty 9 i0 1 Tryz.underlying32 hi v n (tc xs) hown, by simpa using hown, Keep.refl _ _⟩
  | some ad =>
    have hnew : ∀ j u, (tc ys)[j]? = some u → w.cell? (ad.add j) = some u := fun j u hu => by
      have hj : j < ys.length := by
        have := (List.getElem?_eq_some_iff.1 hu).1
        rwa [tc_len] at this
      obtain ⟨b, off, e, hc⟩ := hr.flat (by rw [← hr.len]; omega)
      injection e with e
      subst e
      rw [add_flat, hc j (by rw [← hr.len]; exact hj)]
      simp [tc, List.getElem?_eq_getElem hj] at hu
      simp [List.getD, List.getElem?_eq_getElem hj, hu]
    obtain ⟨v', w', k0, k1, k2, _⟩ := run_append_own (P := Tryz.prog) w base 32 ty 9 i0 (.string ByteArray.empty) 1 16 Tryz.underlying32 hi hz0 hz1 hz2 rfl (by decide) v n (tc xs) hown ad m c (tc ys) (by rw [tc_len, hr.len]; omega) hnew (by intro u hu; obtain ⟨t, _, rfl⟩ := List.mem_map.1 hu; rfl) (by unfold maxLen; omega) (by omega) hbase
    exact ⟨v', w', k0, by rw [tc_app]; exact k1, Keep.ofGrown k2⟩
set_option maxHeartbeats 3200000 in
theorem qshelf_any (w : World) (F : Nat → Prop) (q : Nat) (P : Pl) (h : QAt w F q P) (hk : P.ks.length ≤ 100000) (hrl : ∀ k, ((P.m k).getD []).length ≤ 100000) :
    Calls Tryz.prog 12 #[.pointer (some ⟨q, 0, none⟩)] w fun e w' => ∃ S, e = .returned S ∧ ShA w' w.heap.size P.li P.ru P.us (sortK P.ks) ((sortK P.ks).map (textsK P)) S ∧ Below w.heap.size w w' := by
  obtain ⟨vN, vT, vR, vs, us, h⟩ := h
  obtain ⟨a, c, rfl, tN⟩ := TRd.ofOwn h.oN
  obtain ⟨a2, c2, rfl⟩ : ∃ a2 c2, vT = .slice a2 (sortK P.ks).length c2 := ownR_sl h.oT
  have hN : (sortK P.ks).length ≤ 100000 := by rw [sortK_len]; exact hk
  have HR : Hid (∀ k, ((P.m k).getD []).length ≤ 100000) := hrl
  obtain ⟨N, HN⟩ : ∃ N, Hid ((sortK P.ks).length = N) := ⟨_, rfl⟩
  have HL : Hid (QM w F q P (.slice a N c) (.slice a2 N c2) vR vs us) := by rw [← HN.out]; exact h
  rw [HN.out] at hN tN
  clear h hk hrl
  have HM : Hid ((w.alloc (.cells shZ 38)).rangeAt q 0 (shc P.li P.ru P.us (.slice a N c) (.slice a2 N c2)).toList) := fun j v hv => by
    have hL1 := HL.out.below (below1 w (.cells shZ 38))
    rw [Nat.zero_add, cell_of_block hL1.blk]
    match j, hv with
    | 0, hv => exact hv
    | 1, hv => exact hv
    | 2, hv => exact hv
    | 3, hv => exact hv
    | 4, hv => exact hv
  have HW : Hid (QM (w.alloc (.cells shZ 38)) F q P (.slice a N c) (.slice a2 N c2) vR vs us ∧ ShAt (w.alloc (.cells shZ 38)) w.heap.size shZ ∧ Below w.heap.size w (w.alloc (.cells shZ 38)) ∧ (w.alloc (.cells shZ 38)).heap.size = w.heap.size + 1 ∧ TRd (w.alloc (.cells shZ 38)) a N c (sortK P.ks)) :=
    ⟨HL.out.below (below1 w _), push_at _ _ rfl, below1 w _, by simp, tN.below (below1 w _)⟩
  clear tN
  go_enter Tryz.func12, Tryz.ntmps12
  go_upto_region 1 with fail
  obtain ⟨B, HB⟩ : ∃ B, Hid (w.heap.size = B) := ⟨_, rfl⟩
  rw [HB.out] at HW ⊢
  unfold shZ at HW HM
  generalize w.alloc _ = X at HW HM ⊢
  have HY : Hid (ShAt ((X.alloc (.cells shZ 38)).setRow X.heap.size (shc P.li P.ru P.us (.slice a N c) (.slice a2 N c2))) X.heap.size (shc P.li P.ru P.us (.slice a N c) (.slice a2 N c2)) ∧ Below X.heap.size X ((X.alloc (.cells shZ 38)).setRow X.heap.size (shc P.li P.ru P.us (.slice a N c) (.slice a2 N c2)))) := by
    have hk := rowK (X.alloc (.cells shZ 38)) X.heap.size (shc P.li P.ru P.us (.slice a N c) (.slice a2 N c2))
    exact ⟨setRow_heap _ X.heap.size _ _ 38 (0, 0) (push_at _ _ rfl), (below1 X (.cells shZ 38)).trans (hk.below (by simp) (fun j e => by omega))⟩
  go_upto_region 2 with (first
    | (refine wpList_load_mid rfl 38 (.tmp 7) rfl q 0 rfl (shc P.li P.ru P.us (.slice a N c) (.slice a2 N c2)).toList _ HM.out Tryz.underlying38 rfl (by rw [infoShelf]; rfl) ?_)
    | (refine wp_store_sh rfl (.tmp 3) (.tmp 8) rfl X.heap.size rfl (shc P.li P.ru P.us (.slice a N c) (.slice a2 N c2)) rfl (by simp [shc, Value.oneCell']) rfl shZ rfl (push_at _ _ rfl) ?_))
  obtain ⟨ks, Hks⟩ : ∃ ks, Hid (sortK P.ks = ks) := ⟨_, rfl⟩
  have Y1 : Hid (QM ((X.alloc (.cells shZ 38)).setRow X.heap.size (shc P.li P.ru P.us (.slice a N c) (.slice a2 N c2))) F q P (.slice a N c) (.slice a2 N c2) vR vs us ∧ ShAt ((X.alloc (.cells shZ 38)).setRow X.heap.size (shc P.li P.ru P.us (.slice a N c) (.slice a2 N c2))) B shZ ∧ Below B w ((X.alloc (.cells shZ 38)).setRow X.heap.size (shc P.li P.ru P.us (.slice a N c) (.slice a2 N c2))) ∧ X.heap.size = B + 1 ∧ TRd ((X.alloc (.cells shZ 38)).setRow X.heap.size (shc P.li P.ru P.us (.slice a N c) (.slice a2 N c2))) a N c ks) := by
    have hb := HY.out.2
    have hz := HW.out.2.2.2.1
    rw [← Hks.out]
    exact ⟨HW.out.1.below hb, box_below HW.out.2.1 hb, HW.out.2.2.1.trans (hb.mono (by omega)), hz, HW.out.2.2.2.2.below hb⟩
  have hYz : X.heap.size + 1 ≤ ((X.alloc (.cells shZ 38)).setRow X.heap.size (shc P.li P.ru P.us (.slice a N c) (.slice a2 N c2))).heap.size := by have := box_lt HY.out.1; omega
  replace hYz : Hid _ := hYz
  clear HW HM
  unfold shZ at HY Y1 hYz
  generalize hgg : X.heap.size = g at *
  generalize (X.alloc _).setRow _ _ = Y at *
  have HY1 := HY.out.1
  clear HY hgg
  have u3 : (Y.alloc (.cells #[] 9)).cell? ⟨q, 3, none⟩ = some (.slice a N c) := (Y1.out.1.below (below1 Y _)).c3
  go_upto_region 4 with (at_builtin; refine wp_appS rfl (.tmp 9) (.tmp 14) rfl Y.heap.size (.slice (some ⟨Y.heap.size, 0, none⟩) 0 0) 0 [] rfl (own_built Y #[] 9 (by simp)) a N c ks rfl (Y1.out.2.2.2.2.below (below1 Y _)) (by omega) (by simp) ?_; intro v5 w5 o5 k5; obtain ⟨a5, c5, hv5⟩ := ownR_sl o5; subst hv5; have kk : Hid (Keep (fun k => k = Y.heap.size) (Y.alloc (.cells #[] 9)) w5) := k5.mono (fun i e => by injection e with e; exact e.symm); have hg5 : ShAt w5 g (shc P.li P.ru P.us (.slice a N c) (.slice a2 N c2)) := box_keep (box_below HY1 (below1 Y _)) kk.out (by have := hYz.out; omega); have p3 := sh3 hg5; have p4 := sh4 hg5; have z3 := unfrozen_of_block hg5 3; have z4 := unfrozen_of_block hg5 4)
  have M0 : Hid (ShM B w ((w5.setCell ⟨g, 3, none⟩ (.slice a5 (0 + N) c5)).setCell ⟨g, 4, none⟩ (.slice none 0 0)) P g (.slice a N c) ks (.slice a5 (0 + N) c5) N (.slice none 0 0) [] 0 ∧ QM ((w5.setCell ⟨g, 3, none⟩ (.slice a5 (0 + N) c5)).setCell ⟨g, 4, none⟩ (.slice none 0 0)) F q P (.slice a N c) (.slice a2 N c2) vR vs us) := by
    have hbY := below1 Y (.cells #[] 9)
    have hYs := hYz.out
    have hgB := Y1.out.2.2.2.1
    have hb5 : Below Y.heap.size Y w5 := hbY.trans (kk.out.below (by simp) (fun j e => by omega))
    have hs5 := hb5.size
    have k3 := setK w5 g 3 (.slice a5 (0 + N) c5)
    have k4 := setK (w5.setCell ⟨g, 3, none⟩ (.slice a5 (0 + N) c5)) g 4 (.slice none 0 0)
    have k34 := k3.trans k4
    have hzz := k34.size
    have hblk : ShAt ((w5.setCell ⟨g, 3, none⟩ (.slice a5 (0 + N) c5)).setCell ⟨g, 4, none⟩ (.slice none 0 0)) g (shc P.li P.ru P.us (.slice a5 (0 + N) c5) (.slice none 0 0)) := block_setCell (i := 4) (block_setCell (i := 3) hg5 (.slice a5 (0 + N) c5)) (.slice none 0 0)
    have hlt5 := fun k e => (o5.lt k e).1
    have hF5 : ∀ i, F i → i < Y.heap.size := Y1.out.1.lt
    have hB4 : Below B w ((w5.setCell ⟨g, 3, none⟩ (.slice a5 (0 + N) c5)).setCell ⟨g, 4, none⟩ (.slice none 0 0)) := (Y1.out.2.2.1.trans (hb5.mono (by omega))).trans (k34.below (by omega) (fun j e => by omega))
    have hFg : ∀ i, F i → i < B := fun i hi => by
      have h1 := HL.out.lt i hi
      have h2 := HB.out
      omega
    have hQ5 : QM w5 F q P (.slice a N c) (.slice a2 N c2) vR vs us := Y1.out.1.below hb5
    have hQ : QM ((w5.setCell ⟨g, 3, none⟩ (.slice a5 (0 + N) c5)).setCell ⟨g, 4, none⟩ (.slice none 0 0)) F q P (.slice a N c) (.slice a2 N c2) vR vs us := hQ5.keep k34 (fun i hi e => by have := hFg i hi; omega)
    have hklen : ks.length = N := by rw [← Hks.out]; exact HN.out
    refine ⟨⟨hblk, box_keep (box_below Y1.out.2.1 hb5) k34 (by omega), ?_, World.ownsRow_nil .., Vr.nil _ _, ?_, (fun e => by have := hlt5 _ e; omega), (fun e => by cases e), (fun i e e2 => by cases e2), (fun i e e2 => ?_), (fun i e e2 => by cases e2), (fun e => ?_), by omega, hB4⟩, hQ⟩
    · rw [List.take_of_length_le (by omega)]
      have o6 := own_keep o5 k34 (fun k e e2 => by have := hlt5 k e; omega)
      rw [List.nil_append, Nat.zero_add] at o6
      rw [Nat.zero_add]
      exact own_weak o6 (by omega)
    · rw [hklen, ← HN.out, ← Hks.out]
      have := hQ.oN
      rw [← HN.out] at this
      exact this
    · have h1 := hFg i (HL.out.fN i e)
      have h2 := hlt5 i e2
      omega
    · have h1 := hFg g (HL.out.fN g e)
      omega
  clear o5 k5 kk hg5 p3 p4 z3 z4 HY1 u3 Y1 hYz
  rw [Nat.zero_add] at M0
  replace M0 : Hid _ := M0.out.1
  generalize (w5.setCell _ _).setCell _ _ = W0 at M0 ⊢
  have hklen : Hid (ks.length = N) := by show _ = _; rw [← Hks.out]; exact HN.out
  go_upto_region 5 with fail
  go_loopw [4] (fun s4 wr => ∃ (j : Nat) (vT : Value) (vz : List Value), s4 = .int .i64 (j : Int) ∧ j ≤ N ∧ Hid (ShM B w wr P g (.slice a N c) ks (.slice a5 N c5) N vT vz j)) (fun s4 _ => N - (intOf s4).toNat)
  case atStart => exact ⟨0, _, _, rfl, by omega, M0⟩
  case round =>
    obtain ⟨j, vT, vz, rfl, hj, M⟩ := hrel
    clear M0
    have hQ : QM wr F q P (.slice a N c) (.slice a2 N c2) vR vs us := HL.out.below (by rw [HB.out]; exact M.out.bel)
    have u4 := hQ.c4
    have oT := hQ.oT
    rw [HN.out] at oT
    obtain ⟨a2', c2', he, hTT⟩ := TTd.ofOwn oT hQ.rT (by rw [List.length_map]; exact HN.out)
    injection he with he1 he2 he3
    subst he1 he3
    clear he2 hQ oT
    have hmost := hTT.most
    have hcap := hTT.cap
    unfold maxLen at hmost
    by_cases hlt : j < N
    · have hcl : (j : Int) < (N : Int) := by omega
      have hj0 : (0 : Int) ≤ (j : Int) := by omega
      obtain ⟨b, off, rfl, hce⟩ := hTT.flat (by omega)
      obtain ⟨y1, k1, l1, y2, y3⟩ := hce j hlt
      obtain ⟨y, hy⟩ : ∃ y, ks[j]? = some y := ⟨_, List.getElem?_eq_getElem (by rw [hklen.out]; exact hlt)⟩
      have HTk : Hid (ks.take (j + 1) = ks.take j ++ [y]) := by
        show _ = _
        rw [List.take_add_one, hy]; rfl
      rw [show ((sortK P.ks).map (textsK P)).getD j [] = textsK P y by rw [Hks.out, List.getD_eq_getElem?_getD, List.getElem?_map, hy]; rfl] at y3
      have hk1 : k1 ≤ 100000 := by
        have h1 := y3.len
        have h2 := HR.out y
        unfold textsK at h1
        rw [List.length_map] at h1
        omega
      clear hce hTT hy
      obtain ⟨at1, ct, hv⟩ := ownR_sl M.out.oT
      subst hv
      go_upto_region 7 with fail
      refine wp_region_lx (fun w' => ShAt w' g (shc P.li P.ru P.us (.slice a5 N c5) (.slice at1 j ct)) ∧ w'.cell? ⟨q, 4, none⟩ = some (.slice (some ⟨b, off, none⟩) N c2) ∧ w'.cell? ⟨b, off + j, none⟩ = some (.slice y1 k1 l1)) [15] 16 (by kernel_rfl) (by kernel_rfl) ?_
      have D0 := M.out.below (Below.refl _ _).drew
      have y4 := y3.below (Below.refl _ wr).drew
      have HS0 : ShAt wr.drew g (shc P.li P.ru P.us (.slice a5 N c5) (.slice at1 j ct)) ∧ wr.drew.cell? ⟨q, 4, none⟩ = some (.slice (some ⟨b, off, none⟩) N c2) ∧ wr.drew.cell? ⟨b, off + j, none⟩ = some (.slice y1 k1 l1) := ⟨D0.blk, u4, y2⟩
      clear u4 y2 y3 M
      generalize World.drew _ = Y at D0 y4 HS0 ⊢
      refine lx_rd 0 (.pointer (some ⟨g, 4, none⟩)) (by kernel_rfl) (fun _ _ d _ _ h => by cases d <;> exact h) (by kernel_rfl) HS0 rfl rfl rfl (fun w' hS => ?hA0) ?_
      case hA0 => first | (go_simp; rfl) | go_simp
      simp only [List.setIfInBounds_toArray, List.set_cons_zero, List.set_cons_succ]
      refine lx_rd 1 (.slice at1 j ct) (by kernel_rfl) (fun _ _ d _ _ h => by cases d <;> exact h) (by kernel_rfl) HS0 rfl rfl rfl (fun w' hS => ?hA1) ?_
      case hA1 => have q0 := sh4 hS.1; first | (go_simp; rfl) | go_simp
      simp only [List.setIfInBounds_toArray, List.set_cons_zero, List.set_cons_succ]
      refine lx_rd 3 (.pointer (some ⟨q, 0, none⟩)) (by kernel_rfl) (fun _ _ d _ _ h => by cases d <;> exact h) (by kernel_rfl) HS0 rfl rfl rfl (fun w' hS => ?hA3) ?_
      case hA3 => first | (go_simp; rfl) | go_simp
      simp only [List.setIfInBounds_toArray, List.set_cons_zero, List.set_cons_succ]
      refine lx_rd 4 (.pointer (some ⟨q, 0, none⟩)) (by kernel_rfl) (fun _ _ d _ _ h => by cases d <;> exact h) (by kernel_rfl) HS0 rfl rfl rfl (fun w' hS => ?hA4) ?_
      case hA4 => first | (go_simp; rfl) | go_simp
      simp only [List.setIfInBounds_toArray, List.set_cons_zero, List.set_cons_succ]
      refine lx_rd 5 (.pointer (some ⟨q, 0, none⟩)) (by kernel_rfl) (fun _ _ d _ _ h => by cases d <;> exact h) (by kernel_rfl) HS0 rfl rfl rfl (fun w' hS => ?hA5) ?_
      case hA5 => first | (go_simp; rfl) | go_simp
      simp only [List.setIfInBounds_toArray, List.set_cons_zero, List.set_cons_succ]
      refine lx_rd 6 (.pointer (some ⟨q, 4, none⟩)) (by kernel_rfl) (fun _ _ d _ _ h => by cases d <;> exact h) (by kernel_rfl) HS0 rfl rfl rfl (fun w' hS => ?hA6) ?_
      case hA6 => first | (go_simp; rfl) | go_simp
      simp only [List.setIfInBounds_toArray, List.set_cons_zero, List.set_cons_succ]
      refine lx_rd 7 (.slice (some ⟨b, off, none⟩) N c2) (by kernel_rfl) (fun _ _ d _ _ h => by cases d <;> exact h) (by kernel_rfl) HS0 rfl rfl rfl (fun w' hS => ?hA7) ?_
      case hA7 => have q0 := hS.2.1; first | (go_simp; rfl) | go_simp
      simp only [List.setIfInBounds_toArray, List.set_cons_zero, List.set_cons_succ]
      refine lx_rd 8 (.int .i64 (j : Int)) (by kernel_rfl) (fun _ _ d _ _ h => by cases d <;> exact h) (by kernel_rfl) HS0 rfl rfl rfl (fun w' hS => ?hA8) ?_
      case hA8 => first | (go_simp; rfl) | go_simp
      simp only [List.setIfInBounds_toArray, List.set_cons_zero, List.set_cons_succ]
      refine lx_rd 9 (.pointer (some ⟨b, off + j, none⟩)) (by kernel_rfl) (fun _ _ d _ _ h => by cases d <;> exact h) (by kernel_rfl) HS0 rfl rfl rfl (fun w' hS => ?hA9) ?_
      case hA9 => first | (go_simp; rfl) | go_simp
      simp only [List.setIfInBounds_toArray, List.set_cons_zero, List.set_cons_succ]
      refine lx_rd 10 (.slice y1 k1 l1) (by kernel_rfl) (fun _ _ d _ _ h => by cases d <;> exact h) (by kernel_rfl) HS0 rfl rfl rfl (fun w' hS => ?hA10) ?_
      case hA10 => have q0 := hS.2.2; first | (go_simp; rfl) | go_simp
      simp only [List.setIfInBounds_toArray, List.set_cons_zero, List.set_cons_succ]
      have hcc : ∀ {W : World}, Below Y.heap.size Y W → ∀ {p : Addr} {u : Value}, Y.cell? p = some u → W.cell? p = some u := fun {W} hb {p u} h => (hb.cell (World.block_lt_of_cell? Y _ h)).trans h
      have hb1 := below1 Y (.cells #[] 9)
      have D1 := D0.below hb1
      refine lx_one 2 (by kernel_rfl) (stepT_val (w' := Y.alloc (.cells #[] 9)) (.slice (some ⟨Y.heap.size, 0, none⟩) 0 0) rfl rfl rfl ?ra (fun _ => ⟨D1.blk, hcc hb1 HS0.2.1, hcc hb1 HS0.2.2⟩) ?_)
      case ra => first | (go_simp; rfl) | go_simp
      simp only [lxa, lxb, lxc]
      obtain ⟨v6, w6, hrun6, o6, k6⟩ := run_appSg (w := Y.alloc (.cells #[] 9)) 32 (own_built Y #[] 9 (by simp) : _ ) (xs := []) (y4.below hb1) (by show 0 + k1 ≤ 1000000; omega) (by simp)
      rw [show (#[] : Array Value).size = 0 from rfl, Nat.zero_add, List.nil_append] at o6
      have hb6 : Below Y.heap.size Y w6 := hb1.trans (k6.below (by simp) (fun i e => by injection e with e; show Y.heap.size ≤ i; rw [← e]; exact Nat.le_refl _))
      have D2 := D0.below hb6
      refine lx_one 11 (by kernel_rfl) (stepT_val (w' := w6) v6 rfl rfl rfl (exec_appG rfl rfl rfl hrun6) (fun _ => ⟨D2.blk, hcc hb6 HS0.2.1, hcc hb6 HS0.2.2⟩) ?_)
      simp only [lxa, lxb, lxc]
      obtain ⟨a6, c6, hv6⟩ := ownR_sl o6
      subst hv6
      obtain ⟨a6', c6', he, t6⟩ := TRd.ofOwn (show w6.ownsRow Y.heap.size 9 1 (.slice a6 k1 c6) k1 (tc (textsK P y)) from o6)
      injection he with he1 he2 he3
      subst he1 he3
      clear he2
      have hF6 : ∀ ad, a6 = some ad → B + 1 ≤ ad.block ∧ ad.block < w6.heap.size ∧ (Value.slice a5 N c5).ownBlock ≠ some ad.block ∧ (Value.slice at1 j ct).ownBlock ≠ some ad.block ∧ ad.block ≠ g := fun ad e => by
        subst e
        have h1 := o6.lt ad.block rfl
        have h2 := D0.gl
        have h3 := D0.hg
        exact ⟨by omega, h1.2, fun e => by have := (D0.oN.lt _ e).2; omega, fun e => by have := (D0.oT.lt _ e).2; omega, by omega⟩
      have hY6 : ∀ ad, a6 = some ad → Ty w6 ad.block := fun ad e => by subst e; exact own_ty o6
      have hb7 : Below Y.heap.size Y (w6.alloc (.cells #[.slice a6 k1 c6] 32)) := hb6.trans ((below1 w6 (.cells #[.slice a6 k1 c6] 32)).mono hb6.size)
      have D3 := D0.below hb7
      refine lx_one 12 (by kernel_rfl) (stepT_val (w' := w6.alloc (.cells #[.slice a6 k1 c6] 32)) (.slice (some ⟨w6.heap.size, 0, none⟩) 1 1) rfl rfl rfl ?rb (fun _ => ⟨D3.blk, hcc hb7 HS0.2.1, hcc hb7 HS0.2.2⟩) ?_)
      case rb => first | (go_simp; rfl) | go_simp
      simp only [lxa, lxb, lxc]
      obtain ⟨v9, w9, hrun9, o9, k9, h9, _⟩ := run_appG 36 32 _ 24 Tryz.underlying36 infoStrsG (by decide) rfl (w := w6) 36 D2.oT (.slice a6 k1 c6) (by simp [Value.oneCell']) (by omega) (by have := D2.gl; have := D2.hg; omega)
      have hb9 : ShAt w9 g (shc P.li P.ru P.us (.slice a5 N c5) (.slice at1 j ct)) := box_keep D2.blk k9 D2.gT
      have hFB : ∀ i, F i → i < B := fun i hi => by
        have h1 := HL.out.lt i hi
        have h2 := HB.out
        omega
      have hct : ∀ {p : Addr} {u : Value}, p.block < B → Y.cell? p = some u → w9.cell? p = some u := fun {p u} hp h => k9.cell (hcc hb6 h) (fun e => by have := (D2.oT.lt _ e).1; omega)
      have hqB : q < B := hFB q HL.out.fq
      have hbB : b < B := hFB b (HL.out.fT b rfl)
      refine lx_one 13 (by kernel_rfl) (stepT_val (w' := w9) v9 rfl rfl rfl (exec_appG rfl rfl rfl hrun9) (fun _ => ⟨hb9, hct hqB HS0.2.1, hct hbB HS0.2.2⟩) ?_)
      simp only [lxa, lxb, lxc]
      have D10 := D2.text o9 k9 h9 HTk.out t6 hF6 hY6
      obtain ⟨av9, cv9, hv⟩ := ownR_sl o9
      subst hv
      have HS9 : ShAt w9 g (shc P.li P.ru P.us (.slice a5 N c5) (.slice at1 j ct)) ∧ w9.cell? ⟨q, 4, none⟩ = some (.slice (some ⟨b, off, none⟩) N c2) ∧ w9.cell? ⟨b, off + j, none⟩ = some (.slice y1 k1 l1) := ⟨hb9, hct hqB HS0.2.1, hct hbB HS0.2.2⟩
      clear hrun9 o9 k9 h9 D3 D2 D1 D0 HS0 hb1 hb6 hb7 hcc hct o6 k6 hrun6 t6 hF6 hY6 y4
      have z9 := unfrozen_of_block hb9 4
      have q9 := sh4 hb9
      refine lx_rd 14 (.pointer (some ⟨g, 4, none⟩)) (by kernel_rfl) (fun _ _ d _ _ h => by cases d <;> exact h) (by kernel_rfl) HS9 rfl rfl rfl (fun w' hS => ?hK14) ?_
      case hK14 => first | (go_simp; rfl) | go_simp
      simp only [List.setIfInBounds_toArray, List.set_cons_zero, List.set_cons_succ]
      refine lx_one 15 (by kernel_rfl) (stepT_store (w' := w9.setCell ⟨g, 4, none⟩ (.slice av9 (j + 1) cv9)) rfl rfl rfl ?rl (fun h => by cases h) ?_)
      case rl => first | (go_simp; rfl) | go_simp
      refine lx_nil (by kernel_rfl) ?_
      clear hb9 z9 q9 HS9
      generalize w9.setCell ⟨g, 4, none⟩ _ = W9 at D10 ⊢
      replace D10 : Hid _ := D10
      go_wp2
      exact ⟨⟨j + 1, _, _, by go_num, by omega, D10⟩, by simp [intOf]; omega⟩
    · have hcl : ¬ (j : Int) < (N : Int) := by omega
      obtain rfl : j = N := by omega
      have hM := M.out
      obtain ⟨at1, ct, hv⟩ := ownR_sl hM.oT
      subst hv
      have hA9 : ShA (wr.setRow B (shc P.li P.ru P.us (.slice a5 j c5) (.slice at1 j ct))) B P.li P.ru P.us ks (ks.map (textsK P)) (.agg (shc P.li P.ru P.us (.slice a5 j c5) (.slice at1 j ct))) := by
        have hk := rowK wr B (shc P.li P.ru P.us (.slice a5 j c5) (.slice at1 j ct))
        have e1 : ks.take j = ks := List.take_of_length_le (by rw [hklen.out]; exact Nat.le_refl _)
        have o1 := own_keep hM.oN hk (fun k e e2 => by have := (hM.oN.lt k e).1; omega)
        have o2 := own_keep hM.oT hk (fun k e e2 => by have := (hM.oT.lt k e).1; omega)
        have o3 := hM.rows.keep (G := fun i => B ≤ i ∧ (Value.slice a5 j c5).ownBlock ≠ some i ∧ (Value.slice at1 j ct).ownBlock ≠ some i) hk (fun i hi e => by have := hi.1; omega) (fun i hi => ⟨by have := hi.1; omega, hi.2.2.1, hi.2.2.2.1⟩)
        rw [e1] at o1 o3
        refine ⟨_, _, vz, rfl, ?_, ?_, o3⟩
        · rw [hklen.out]; exact own_weak o1 (by omega)
        · rw [List.length_map, hklen.out]; exact own_weak o2 (by omega)
      have hB9 : Below B w (wr.setRow B (shc P.li P.ru P.us (.slice a5 j c5) (.slice at1 j ct))) := hM.bel.trans ((rowK wr B _).below (by have := hM.gl; have := hM.hg; omega) (fun k e => by omega))
      replace hA9 : Hid _ := hA9
      replace hB9 : Hid _ := hB9
      clear hM hTT
      go_wp2_with (first
        | (refine wp_load_sh rfl (.tmp 3) rfl g rfl _ rfl M.out.blk ?_)
        | (refine wp_store_sh rfl (.tmp 2) (.tmp 43) rfl B rfl (shc P.li P.ru P.us (.slice a5 j c5) (.slice at1 j ct)) rfl (by simp [shc, Value.oneCell']) rfl shZ rfl M.out.res ?_))
      refine bodyPost_ret (v := .agg (shc P.li P.ru P.us (.slice a5 j c5) (.slice at1 j ct))) ?_ rfl ⟨_, rfl, ?_, ?_⟩
      · exact res_sh rfl _ _ B _ rfl rfl (setRow_heap _ B _ _ 38 (0, 0) M.out.res)
      · rw [Hks.out, HB.out]; exact hA9.out
      · rw [HB.out]; exact hB9.out
end Go.Proofs.YtiplalbicibahaaGreatDoor

/- privacy: does a rule fit? as the document asks. -/
set_option maxRecDepth 100000
namespace Go.Proofs.YtiplalbicibahaaGreatDoor
open Go.RowKit Go.Joins Go.Shelf

/-- A rule that Parse may tell. -/
def okRul (r : Rul) : Prop := r.k = wAll ∨ r.k = wJid ∨ r.k = wGroup ∨ (r.k = wSub ∧ isSubB r.v = true)
theorem sub_short {l : By} (h : isSubB l = true) : endsA l = false ∧ l.length ≤ 4 := by
  unfold isSubB at h
  simp only [Bool.or_eq_true, beq_iff_eq] at h
  rcases h with rfl | rfl | rfl | rfl <;> exact ⟨by decide, by decide⟩
theorem sub_trim {v s : By} (h : isSubB v = true) : (v == trimA s) = (s == v || s == v ++ wAsk) := by
  obtain ⟨h1, _⟩ := sub_short h
  unfold trimA
  by_cases he : endsA s = true
  · rw [if_pos he]
    have hs : (s == v) = false := by
      rw [beq_eq_false_iff_ne]
      intro e
      rw [e, h1] at he
      cases he
    rw [hs, Bool.false_or]
    have hsp : s = s.take (s.length - 4) ++ wAsk := by
      unfold endsA at he
      have := beq_iff_eq.1 (Bool.and_eq_true _ _ ▸ he).2
      rw [← this]
      exact (List.take_append_drop _ _).symm
    have hiff : v = s.take (s.length - 4) ↔ s = v ++ wAsk := by
      constructor
      · intro e; rw [e]; exact hsp
      · intro e
        rw [e] at hsp ⊢
        exact (List.append_cancel_right hsp)
    by_cases hv : v = s.take (s.length - 4)
    · rw [beq_iff_eq.2 hv, beq_iff_eq.2 (hiff.1 hv)]
    · rw [beq_eq_false_iff_ne.2 hv, beq_eq_false_iff_ne.2 (fun e => hv (hiff.2 e))]
  · rw [if_neg he]
    have hs : (s == v ++ wAsk) = false := by
      rw [beq_eq_false_iff_ne]
      intro e
      apply he
      rw [e]
      unfold endsA
      simp [wAsk]
    rw [hs, Bool.or_false, Bool.beq_comm]
theorem wp_addBW {ops : Array Oper} {rest : List Oper} {o : Oper} {a : Act} {w : World} {Q : Exit → Act → World → Prop} (hw : Region.wanted o (yielded ops a.tmps) = true) {x y : Operand} {t u : TypeId} (ho : o.op = .binOp .add t x y u) (l m : By) (hx : a.eval x = .string (ba l)) (hy : a.eval y = .string (ba m)) (hs : l.length + m.length ≤ 9223372036854775807)
    (hk : wpList Tryz.prog ops Q rest (a.put o.dst (.string (ba (l ++ m)))) w) : wpList Tryz.prog ops Q (o :: rest) a w := by
  refine Go.BigFrame.wpList_want hw fun _ hK' => ?_
  unfold Oper.wp
  rw [exec_addB ho hx hy hs]
  exact hK' _ _ hk
set_option maxHeartbeats 3200000 in
theorem qfits_any (r : Rul) (y : Qy) (a : Option Addr) (n c : Nat) (w : World) (hR : TRd w a n c y.gs) (hv : okRul r) :
    Calls Tryz.prog 47 #[rv r, .bool y.i, .string (ba y.c), .slice a n c, .string (ba y.s)] w fun e w' => e = .returned (.bool (fitsR y r)) ∧ Below w.heap.size w w' := by
  obtain ⟨al, i, o, k, v⟩ := r
  obtain ⟨yi, yc, gs, ys⟩ := y
  dsimp only at hR ⊢
  have HX : Hid (RuAt (w.alloc (.cells (rc ⟨al, i, o, k, v⟩) 72)) w.heap.size ⟨al, i, o, k, v⟩ ∧ Below w.heap.size w (w.alloc (.cells (rc ⟨al, i, o, k, v⟩) 72))) := ⟨push_at _ _ rfl, below1 _ _⟩
  have e1 : ((ba k).toList == [97, 108, 108]) = (k == wAll) := ba_eq _ _
  have e2 : ((ba k).toList == [106, 105, 100]) = (k == wJid) := ba_eq _ _
  have e3 : ((ba k).toList == [115, 117, 98]) = (k == wSub) := ba_eq _ _
  have f1 : ((ba v).toList == (ba yc).toList) = (v == yc) := by rw [ba_eq, Lib.toList_data, ba_list]
  have f2 : ((ba ys).toList == (ba v).toList) = (ys == v) := by rw [ba_eq, Lib.toList_data, ba_list]
  have f3 : ((ba ys).toList == (ba (v ++ wAsk)).toList) = (ys == v ++ wAsk) := by rw [ba_eq, Lib.toList_data, ba_list]
  unfold fitsR
  dsimp only
  show Calls _ _ #[.agg (rc _), _, _, _, _] _ _
  unfold rc
  unfold rc at HX
  by_cases hw : ((yi && !i) || (!yi && !o)) = true
  · rw [if_pos hw]
    clear hv e1 e2 e3 f1 f2 f3 hR
    cases yi <;> cases i <;> cases o <;> first | (exact absurd hw (by decide)) | skip
    all_goals
      go_enter Tryz.func47, Tryz.ntmps47
      go_upto_region 1 with fail
      generalize w.alloc _ = X at HX ⊢
      have u1 := HX.out.1.c1
      have u2 := HX.out.1.c2
      go_wp2
      go_ret
      exact ⟨rfl, HX.out.2⟩
  · rw [if_neg hw]
    unfold okRul at hv
    dsimp only at hv
    rcases hv with rfl | rfl | rfl | ⟨rfl, hs⟩
    · clear f1 f2 f3 hR e2 e3
      rw [show (wAll == wJid) = false from rfl, show (wAll == wGroup) = false from rfl, show (wAll == wSub) = false from rfl]
      rw [show (wAll == wAll) = true from rfl] at e1
      cases yi <;> cases i <;> cases o <;> first | (exact absurd rfl hw) | skip
      all_goals
        clear hw
        go_enter Tryz.func47, Tryz.ntmps47
        go_upto_region 1 with fail
        generalize w.alloc _ = X at HX ⊢
        have u1 := HX.out.1.c1
        have u2 := HX.out.1.c2
        have u3 := HX.out.1.c3
        go_wp2
        go_ret
        exact ⟨rfl, HX.out.2⟩
    · clear f2 f3 hR e3
      rw [show (wJid == wJid) = true from rfl, if_pos rfl]
      rw [show (wJid == wAll) = false from rfl] at e1
      rw [show (wJid == wJid) = true from rfl] at e2
      generalize (v == yc) = b at f1 ⊢
      cases yi <;> cases i <;> cases o <;> first | (exact absurd rfl hw) | skip
      all_goals
        clear hw
        go_enter Tryz.func47, Tryz.ntmps47
        go_upto_region 1 with fail
        generalize w.alloc _ = X at HX ⊢
        have u1 := HX.out.1.c1
        have u2 := HX.out.1.c2
        have u3 := HX.out.1.c3
        have u4 := HX.out.1.c4
        go_wp2
        go_ret
        exact ⟨rfl, HX.out.2⟩
    · clear f1 f2 f3
      rw [show (wGroup == wJid) = false from rfl, show (wGroup == wGroup) = true from rfl, if_neg (by decide), if_pos rfl]
      rw [show (wGroup == wAll) = false from rfl] at e1
      rw [show (wGroup == wJid) = false from rfl] at e2
      rw [show (wGroup == wSub) = false from rfl] at e3
      have Hn : Hid (gs.length = n) := hR.len
      have hcap := hR.cap
      have hmost := hR.most
      unfold maxLen at hmost
      have HR : Hid (TRd w a n c gs) := hR
      clear hR
      obtain ⟨R, HRR⟩ : ∃ R, Hid (gs.contains v = R) := ⟨_, rfl⟩
      rw [HRR.out]
      cases yi <;> cases i <;> cases o <;> first | (exact absurd rfl hw) | skip
      all_goals
        clear hw
        go_enter Tryz.func47, Tryz.ntmps47
        go_upto_region 1 with fail
        generalize w.alloc _ = X at HX ⊢
        have u1 := HX.out.1.c1
        have u2 := HX.out.1.c2
        have u3 := HX.out.1.c3
        go_upto_region 11 with fail
        clear u1 u2 u3
        go_loopw [11] (fun s11 wr => ∃ j : Nat, s11 = .int .i64 (j : Int) ∧ j ≤ n ∧ Hid (∀ g ∈ gs.take j, g ≠ v) ∧ Hid (Below X.heap.size X wr)) (fun s11 _ => n - (intOf s11).toNat)
        case atStart => exact ⟨0, rfl, by omega, fun g hg => by simp at hg, Below.refl _ _⟩
        case round =>
          obtain ⟨j, rfl, hj, HN, HB⟩ := hrel
          have hbw : Below w.heap.size w wr := HX.out.2.trans (HB.out.mono HX.out.2.size)
          by_cases hlt : j < n
          · have hcl : (j : Int) < (n : Int) := by omega
            obtain ⟨b, off, rfl, hce⟩ := (HR.out.below hbw).flat (by omega)
            have u5 := hce j hlt
            have u4 : wr.cell? ⟨w.heap.size, 4, none⟩ = some (.string (ba v)) := (HX.out.1.carry HB.out).c4
            obtain ⟨g, hg⟩ : ∃ g, gs[j]? = some g := ⟨_, List.getElem?_eq_getElem (by rw [Hn.out]; exact hlt)⟩
            rw [show gs.getD j [] = g by rw [List.getD_eq_getElem?_getD, hg]; rfl] at u5
            have hle : ((ba g).toList == (ba v).toList) = (g == v) := by rw [ba_eq, Lib.toList_data, ba_list]
            have hyes : Hid ((g == v) = true → R = true) := fun hx => by
              rw [← HRR.out, List.contains_iff_mem]
              rw [← beq_iff_eq.1 hx]
              exact List.mem_of_getElem? hg
            have hno : Hid ((g == v) = false → ∀ z ∈ gs.take (j + 1), z ≠ v) := fun hx z hz => by
              rw [List.take_add_one, hg] at hz
              rcases List.mem_append.1 hz with e | e
              · exact HN.out z e
              · have : z = g := by simpa using e
                rw [this]; exact beq_eq_false_iff_ne.1 hx
            generalize (g == v) = bb at *
            generalize ba g = SX at *
            generalize ba v = SY at *
            clear hce hg hbw
            cases bb with
            | true =>
              have HY : Hid (R = true) := hyes.out rfl
              clear hyes hno
              go_wp2_with fail
              go_region
              go_wp2
              go_ret
              exact ⟨by rw [HY.out]; rfl, HX.out.2.trans (HB.out.drew.mono HX.out.2.size)⟩
            | false =>
              have HY : Hid _ := hno.out rfl
              clear hyes hno
              go_wp2_with fail
              go_region
              go_wp2
              exact ⟨⟨j + 1, by go_num, by omega, HY.out, HB.out.drew⟩, by simp [intOf]; omega⟩
          · have hcl : ¬ (j : Int) < (n : Int) := by omega
            have HC : Hid (R = false) := by
              show _ = _
              rw [← HRR.out]
              have h := HN.out
              rw [List.take_of_length_le (by rw [Hn.out]; omega)] at h
              cases hc : gs.contains v with
              | false => rfl
              | true => exact absurd rfl (h v (List.contains_iff_mem.1 hc))
            go_wp2
            go_ret
            exact ⟨by rw [HC.out]; rfl, hbw⟩
    · clear f1 hR
      rw [show (wSub == wJid) = false from rfl, show (wSub == wGroup) = false from rfl, show (wSub == wSub) = true from rfl, if_neg (by decide), if_neg (by decide), if_pos rfl, sub_trim hs]
      rw [show (wSub == wAll) = false from rfl] at e1
      rw [show (wSub == wJid) = false from rfl] at e2
      rw [show (wSub == wSub) = true from rfl] at e3
      have hvl := (sub_short hs).2
      clear hs
      generalize (ys == v) = b1 at *
      generalize (ys == v ++ wAsk) = b2 at *
      replace hvl : Hid _ := hvl
      cases b1 <;> cases b2
      all_goals
        cases yi <;> cases i <;> cases o <;> first | (exact absurd rfl hw) | skip
      all_goals
        clear hw
        go_enter Tryz.func47, Tryz.ntmps47
        go_upto_region 1 with fail
        generalize w.alloc _ = X at HX ⊢
        have u1 := HX.out.1.c1
        have u2 := HX.out.1.c2
        have u3 := HX.out.1.c3
        have u4 := HX.out.1.c4
        go_wp2_with (refine wp_addBW (by rfl) rfl v wAsk rfl rfl (by have := hvl.out; show v.length + 4 ≤ _; omega) ?_)
        go_ret
        exact ⟨rfl, HX.out.2⟩
end Go.Proofs.YtiplalbicibahaaGreatDoor
