/- NameBack, the law. -/
import Derived.Test.YtikklhnkkfimfaaDoorNmBackW1
import Derived.Test.YtikklhnkkfimfaaDoorNmBackW2
import Derived.Test.YtikklhnkkfimfaaDoorNmBackW3
import Derived.Test.YtikklhnkkfimfaaDoorNmBackW4
namespace Go.Proofs.YtikklhnkkfimfaaDoor
open Go.RowKit

theorem part_len (c : Bool) (p : List UInt8 × Nat) (h : p.1.length ≤ 256) : (if c = true then p else ([], 0)).1.length ≤ 256 := by
  cases c
  · simp
  · simpa using h
theorem length_parse (l : List UInt8) : (parseN l).1.l.length ≤ 256 ∧ (parseN l).1.h.length ≤ 256 ∧ (parseN l).1.r.length ≤ 256 := by
  have a : (partL l).1.length ≤ 256 := part_len _ _ (prep_len _ _ _)
  have b : (partH l).1.length ≤ 256 := prep_len _ _ _
  have c : (partR l).1.length ≤ 256 := part_len _ _ (prep_len _ _ _)
  unfold parseN
  split
  · simp
  · split
    · simp
    · split
      · simp
      · exact ⟨a, b, c⟩
theorem length_text (j : Jid) : (textN j).1.length ≤ 1000 := by
  have a : (localN j.l).1.length ≤ 256 := prep_len _ _ _
  have b : (hostN j.h).1.length ≤ 256 := prep_len _ _ _
  have c : (resN j.r).1.length ≤ 256 := prep_len _ _ _
  unfold textN
  split
  · simp
  · split
    · simp
    · split
      · simp
      · simp only [List.length_append]
        split <;> split <;> simp <;> omega

theorem gives_local (l : List UInt8) (h : l.length ≤ 9223372036854775807) : Gives 9 #[.string ⟨l.toArray⟩] (Told (localN l)) := fun W hW => by
  have := local_any ⟨l.toArray⟩ W (by rw [arr_size]; exact h) hW
  rwa [back_list] at this
theorem gives_host (l : List UInt8) (h : l.length ≤ 9223372036854775807) : Gives 11 #[.string ⟨l.toArray⟩] (Told (hostN l)) := fun W hW => by
  have := host_any ⟨l.toArray⟩ W (by rw [arr_size]; exact h) hW
  rwa [back_list] at this
theorem gives_parse (l : List UInt8) (h : l.length ≤ 9223372036854775807) : Gives 16 #[.string ⟨l.toArray⟩] (ToldJ (parseN l)) := fun W hW => parse_any l W h hW
theorem gives_text (j : Jid) (hl : j.l.length ≤ 9223372036854775807) (hh : j.h.length ≤ 9223372036854775807) (hr : j.r.length ≤ 9223372036854775807) : Gives 18 #[.agg (cellsJ j)] (Told (textN j)) := fun W hW => nText_any j W hl hh hr hW

theorem text_same (x : ByteArray) : ∃ s : ByteArray, s.size ≤ 300 ∧ ∀ W, Calls Tryd.prog 8 #[.string x, .int .i64 300] W fun e W' => e = .returned (.string s) ∧ W' = W := by
  by_cases hn : ((300 : Nat) : Int) < (x.size : Int)
  · refine ⟨x.extract 0 300, by simp [ByteArray.size_extract]; omega, fun W => ?_⟩
    go_enter Tryd.func8, Tryd.ntmps8
    go_wp2
    go_ret
    exact ⟨rfl, rfl⟩
  · refine ⟨x, by omega, fun W => ?_⟩
    go_enter Tryd.func8, Tryd.ntmps8
    go_wp2
    go_ret
    exact ⟨rfl, rfl⟩

theorem isEmpty_iff {a b : List UInt8} (h : a = [] ↔ b = []) : a.isEmpty = b.isEmpty := by
  cases a <;> cases b <;> simp_all

theorem nameBack_any (x : ByteArray) (j : Jid) (w : World) (hl : j.l.length ≤ 9223372036854775807) (hh : j.h.length ≤ 9223372036854775807) (hr : j.r.length ≤ 9223372036854775807) (hT : Lib.Utf8Tabs 0 1 w) :
    Calls Tryd.prog 5 #[.string x, .agg (cellsJ j)] w fun e w' => e = .returned (.bool true) ∧ Below w.heap.size w w' := by
  obtain ⟨s, hs, cS⟩ := text_same x
  have cW := fun W (hW : Lib.Utf8Tabs 0 1 W) => wakes_any W hW
  have hsl : s.data.toList.length ≤ 9223372036854775807 := by rw [size_list]; omega
  have cL1 := gives_local s.data.toList hsl
  have cH1 := gives_host s.data.toList hsl
  have cP2 := gives_parse s.data.toList hsl
  rw [back_arr] at cL1 cH1 cP2
  have cT1 := gives_text j hl hh hr
  have zL : (localN s.data.toList).1.length ≤ 256 := prep_len _ _ _
  have zH : (hostN s.data.toList).1.length ≤ 256 := prep_len _ _ _
  have zT := length_text j
  have zP := length_parse s.data.toList
  have cL2 := gives_local (localN s.data.toList).1 (by omega)
  have cH2 := gives_host (hostN s.data.toList).1 (by omega)
  have cP1 := gives_parse (textN j).1 (by omega)
  have kL := prep_cases stepL (fun _ => true) s.data.toList
  have kH := prep_cases stepH (fun st => followsB st 46) s.data.toList
  have kT := textN_cases j
  rw [show prep stepL (fun _ => true) s.data.toList = localN s.data.toList from rfl] at kL
  rw [show prep stepH (fun st => followsB st 46) s.data.toList = hostN s.data.toList from rfl] at kH
  have eB : ∀ n : Nat, n ≠ 0 → ((n : Int) == 0) = false := fun n h => by simpa using h
  have QA : (∃ a : List UInt8, Gives 9 #[.string s] (.tuple #[.string ⟨a.toArray⟩, .int .i64 0]) ∧ Gives 9 #[.string ⟨a.toArray⟩] (.tuple #[.string ⟨a.toArray⟩, .int .i64 0]) ∧ ((a.length : Int) == 0) = false ∧ (a.length : Int) ≤ 64) ∨
      ∃ (a : List UInt8) (n1 n2 : Nat), Gives 9 #[.string s] (.tuple #[noS, .int .i64 n1]) ∧ Gives 9 #[noS] (.tuple #[.string ⟨a.toArray⟩, .int .i64 n2]) ∧ ((n1 : Int) == 0) = false := by
    obtain ⟨a, n1, hA⟩ : ∃ a n, localN s.data.toList = (a, n) := ⟨_, _, rfl⟩
    rw [hA] at cL1 cL2 kL
    by_cases h0 : n1 = 0
    · subst h0
      obtain ⟨i1, i2, i3, _⟩ := local_idem hA
      simp only [i1] at cL2
      have hne : a.length ≠ 0 := fun q => i2 (List.length_eq_zero_iff.1 q)
      exact .inl ⟨a, cL1, cL2, eB _ hne, by omega⟩
    · have ha : a = [] := (kL.resolve_left h0).1
      subst ha
      exact .inr ⟨_, n1, _, cL1, cL2, eB _ h0⟩
  have QH : (∃ a : List UInt8, Gives 11 #[.string s] (.tuple #[.string ⟨a.toArray⟩, .int .i64 0]) ∧ Gives 11 #[.string ⟨a.toArray⟩] (.tuple #[.string ⟨a.toArray⟩, .int .i64 0])) ∨
      ∃ (a : List UInt8) (n1 n2 : Nat), Gives 11 #[.string s] (.tuple #[noS, .int .i64 n1]) ∧ Gives 11 #[noS] (.tuple #[.string ⟨a.toArray⟩, .int .i64 n2]) ∧ ((n1 : Int) == 0) = false := by
    obtain ⟨a, n1, hA⟩ : ∃ a n, hostN s.data.toList = (a, n) := ⟨_, _, rfl⟩
    rw [hA] at cH1 cH2 kH
    by_cases h0 : n1 = 0
    · subst h0
      have i1 := (host_idem hA).1
      simp only [i1] at cH2
      exact .inl ⟨a, cH1, cH2⟩
    · have ha : a = [] := (kH.resolve_left h0).1
      subst ha
      exact .inr ⟨_, n1, _, cH1, cH2, eB _ h0⟩
  have QT : (∃ t kl kh : List UInt8, Gives 18 #[.agg #[.string ⟨j.l.toArray⟩, .string ⟨j.h.toArray⟩, .string ⟨j.r.toArray⟩]] (.tuple #[.string ⟨t.toArray⟩, .int .i64 0]) ∧
        Gives 16 #[.string ⟨t.toArray⟩] (.tuple #[.agg #[.string ⟨kl.toArray⟩, .string ⟨kh.toArray⟩, .string ⟨j.r.toArray⟩], .int .i64 0]) ∧
        Gives 18 #[.agg #[.string ⟨kl.toArray⟩, .string ⟨kh.toArray⟩, .string ⟨j.r.toArray⟩]] (.tuple #[.string ⟨t.toArray⟩, .int .i64 0]) ∧ kl.isEmpty = j.l.isEmpty) ∨
      ∃ (kl kh kr : List UInt8) (q1 q2 : Nat), Gives 18 #[.agg #[.string ⟨j.l.toArray⟩, .string ⟨j.h.toArray⟩, .string ⟨j.r.toArray⟩]] (.tuple #[noS, .int .i64 q1]) ∧ Gives 16 #[noS] (.tuple #[.agg #[.string ⟨kl.toArray⟩, .string ⟨kh.toArray⟩, .string ⟨kr.toArray⟩], .int .i64 q2]) ∧ ((q1 : Int) == 0) = false := by
    obtain ⟨t, n1, hA⟩ : ∃ a n, textN j = (a, n) := ⟨_, _, rfl⟩
    rw [hA] at cT1 cP1 kT
    by_cases h0 : n1 = 0
    · subst h0
      obtain ⟨k, hk, htf, hkl, hkr⟩ := text_ready hA
      have hp := ready_parse k hk
      have ht := ready_text k hk
      have zk := length_parse (formJ k)
      rw [hp] at zk
      have zk' : k.l.length ≤ 256 ∧ k.h.length ≤ 256 ∧ k.r.length ≤ 256 := zk
      have cT2 := gives_text k (by omega) (by omega) (by omega)
      rw [ht, ← htf] at cT2
      rw [show (t, 0).1 = formJ k from htf, hp, ← htf] at cP1
      obtain ⟨kl, kh, kr⟩ := k
      simp only at hkr
      subst hkr
      exact .inl ⟨t, kl, kh, cT1, cP1, cT2, isEmpty_iff hkl⟩
    · have ha : t = [] := kT.resolve_left h0
      subst ha
      exact .inr ⟨_, _, _, n1, _, cT1, cP1, eB _ h0⟩
  have QP : (∃ pl ph pr u : List UInt8, Gives 16 #[.string s] (.tuple #[.agg #[.string ⟨pl.toArray⟩, .string ⟨ph.toArray⟩, .string ⟨pr.toArray⟩], .int .i64 0]) ∧ Gives 18 #[.agg #[.string ⟨pl.toArray⟩, .string ⟨ph.toArray⟩, .string ⟨pr.toArray⟩]] (.tuple #[.string ⟨u.toArray⟩, .int .i64 0]) ∧
        Gives 16 #[.string ⟨u.toArray⟩] (.tuple #[.agg #[.string ⟨pl.toArray⟩, .string ⟨ph.toArray⟩, .string ⟨pr.toArray⟩], .int .i64 0])) ∨
      ∃ r1 : Nat, Gives 16 #[.string s] (.tuple #[.agg #[noS, noS, noS], .int .i64 r1]) ∧ ((r1 : Int) == 0) = false := by
    obtain ⟨k, n1, hA⟩ : ∃ a n, parseN s.data.toList = (a, n) := ⟨_, _, rfl⟩
    rw [hA] at cP2 zP
    by_cases h0 : n1 = 0
    · subst h0
      have hk := parse_ready hA
      have zk' : k.l.length ≤ 256 ∧ k.h.length ≤ 256 ∧ k.r.length ≤ 256 := zP
      have hp := ready_parse k hk
      have ht := ready_text k hk
      have cT3 := gives_text k (by omega) (by omega) (by omega)
      have zt := length_text k
      rw [ht] at cT3 zt
      have zt' : (formJ k).length ≤ 1000 := zt
      have cP3 := gives_parse (formJ k) (by omega)
      rw [hp] at cP3
      exact .inl ⟨k.l, k.h, k.r, formJ k, cP2, cT3, cP3⟩
    · have hk := parse_none hA h0
      subst hk
      exact .inr ⟨n1, cP2, eB _ h0⟩
  unfold cellsJ
  rcases QA with ⟨a, A1, A2, A3, A4⟩ | ⟨a, n1, n2, A1, A2, A3⟩
  · rcases QH with ⟨c, H1, H2⟩ | ⟨c, m1, m2, H1, H2, H3⟩
    · rcases QT with ⟨t, kl, kh, T1, T2, T3, T4⟩ | ⟨kl, kh, kr, q1, q2, T1, T2, T3⟩
      · rcases QP with ⟨pl, ph, pr, u, P1, P2, P3⟩ | ⟨r1, P1, P2⟩
        · exact back_oooo x s j.l j.h j.r a c t kl kh pl ph pr u w hT cS cW A1 A2 A3 A4 H1 H2 T1 T2 T3 T4 P1 P2 P3
        · exact back_oooe x s j.l j.h j.r a c t kl kh r1 w hT cS cW A1 A2 A3 A4 H1 H2 T1 T2 T3 T4 P1 P2
      · rcases QP with ⟨pl, ph, pr, u, P1, P2, P3⟩ | ⟨r1, P1, P2⟩
        · exact back_ooeo x s j.l j.h j.r a c kl kh kr q1 q2 pl ph pr u w hT cS cW A1 A2 A3 A4 H1 H2 T1 T2 T3 P1 P2 P3
        · exact back_ooee x s j.l j.h j.r a c kl kh kr q1 q2 r1 w hT cS cW A1 A2 A3 A4 H1 H2 T1 T2 T3 P1 P2
    · rcases QT with ⟨t, kl, kh, T1, T2, T3, T4⟩ | ⟨kl, kh, kr, q1, q2, T1, T2, T3⟩
      · rcases QP with ⟨pl, ph, pr, u, P1, P2, P3⟩ | ⟨r1, P1, P2⟩
        · exact back_oeoo x s j.l j.h j.r a c m1 m2 t kl kh pl ph pr u w hT cS cW A1 A2 A3 A4 H1 H2 H3 T1 T2 T3 T4 P1 P2 P3
        · exact back_oeoe x s j.l j.h j.r a c m1 m2 t kl kh r1 w hT cS cW A1 A2 A3 A4 H1 H2 H3 T1 T2 T3 T4 P1 P2
      · rcases QP with ⟨pl, ph, pr, u, P1, P2, P3⟩ | ⟨r1, P1, P2⟩
        · exact back_oeeo x s j.l j.h j.r a c m1 m2 kl kh kr q1 q2 pl ph pr u w hT cS cW A1 A2 A3 A4 H1 H2 H3 T1 T2 T3 P1 P2 P3
        · exact back_oeee x s j.l j.h j.r a c m1 m2 kl kh kr q1 q2 r1 w hT cS cW A1 A2 A3 A4 H1 H2 H3 T1 T2 T3 P1 P2
  · rcases QH with ⟨c, H1, H2⟩ | ⟨c, m1, m2, H1, H2, H3⟩
    · rcases QT with ⟨t, kl, kh, T1, T2, T3, T4⟩ | ⟨kl, kh, kr, q1, q2, T1, T2, T3⟩
      · rcases QP with ⟨pl, ph, pr, u, P1, P2, P3⟩ | ⟨r1, P1, P2⟩
        · exact back_eooo x s j.l j.h j.r a n1 n2 c t kl kh pl ph pr u w hT cS cW A1 A2 A3 H1 H2 T1 T2 T3 T4 P1 P2 P3
        · exact back_eooe x s j.l j.h j.r a n1 n2 c t kl kh r1 w hT cS cW A1 A2 A3 H1 H2 T1 T2 T3 T4 P1 P2
      · rcases QP with ⟨pl, ph, pr, u, P1, P2, P3⟩ | ⟨r1, P1, P2⟩
        · exact back_eoeo x s j.l j.h j.r a n1 n2 c kl kh kr q1 q2 pl ph pr u w hT cS cW A1 A2 A3 H1 H2 T1 T2 T3 P1 P2 P3
        · exact back_eoee x s j.l j.h j.r a n1 n2 c kl kh kr q1 q2 r1 w hT cS cW A1 A2 A3 H1 H2 T1 T2 T3 P1 P2
    · rcases QT with ⟨t, kl, kh, T1, T2, T3, T4⟩ | ⟨kl, kh, kr, q1, q2, T1, T2, T3⟩
      · rcases QP with ⟨pl, ph, pr, u, P1, P2, P3⟩ | ⟨r1, P1, P2⟩
        · exact back_eeoo x s j.l j.h j.r a n1 n2 c m1 m2 t kl kh pl ph pr u w hT cS cW A1 A2 A3 H1 H2 H3 T1 T2 T3 T4 P1 P2 P3
        · exact back_eeoe x s j.l j.h j.r a n1 n2 c m1 m2 t kl kh r1 w hT cS cW A1 A2 A3 H1 H2 H3 T1 T2 T3 T4 P1 P2
      · rcases QP with ⟨pl, ph, pr, u, P1, P2, P3⟩ | ⟨r1, P1, P2⟩
        · exact back_eeeo x s j.l j.h j.r a n1 n2 c m1 m2 kl kh kr q1 q2 pl ph pr u w hT cS cW A1 A2 A3 H1 H2 H3 T1 T2 T3 P1 P2 P3
        · exact back_eeee x s j.l j.h j.r a n1 n2 c m1 m2 kl kh kr q1 q2 r1 w hT cS cW A1 A2 A3 H1 H2 H3 T1 T2 T3 P1 P2
end Go.Proofs.YtikklhnkkfimfaaDoor
