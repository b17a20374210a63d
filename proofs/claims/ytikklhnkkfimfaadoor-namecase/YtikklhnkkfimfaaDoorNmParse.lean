/- Parse: an address read. -/
import Derived.Test.YtikklhnkkfimfaaDoorNmAddr
import Derived.Test.YtikklhnkkfimfaaDoorNmFun
namespace Go.Proofs.YtikklhnkkfimfaaDoor
open Go.RowKit

theorem back_list (l : List UInt8) : (⟨l.toArray⟩ : ByteArray).data.toList = l := by simp
theorem back_arr (s : ByteArray) : (⟨s.data.toList.toArray⟩ : ByteArray) = s := by cases s; simp
theorem arr_size (l : List UInt8) : (⟨l.toArray⟩ : ByteArray).size = l.length := by simp [ByteArray.size]
theorem size_list (s : ByteArray) : s.data.toList.length = s.size := by simp

theorem parts_local (l : List UInt8) (h : l.length ≤ 9223372036854775807) : Parts 24 l (localN l) := fun W hT => by
  have := inLocal_any ⟨l.toArray⟩ W (by rw [arr_size]; exact h) hT
  rwa [back_list] at this
theorem parts_host (l : List UInt8) (h : l.length ≤ 9223372036854775807) : Parts 29 l (hostN l) := fun W hT => by
  have := inHost_any ⟨l.toArray⟩ W (by rw [arr_size]; exact h) hT
  rwa [back_list] at this
theorem parts_res (l : List UInt8) (h : l.length ≤ 9223372036854775807) : Parts 31 l (resN l) := fun W hT => by
  have := inResource_any ⟨l.toArray⟩ W (by rw [arr_size]; exact h) hT
  rwa [back_list] at this
theorem below_drewN' (w : World) (q : Nat) : Below w.heap.size w (w.drewN q) := below_drewN (Below.refl _ _) q
theorem cuts_any (l : List UInt8) (c : UInt8) (h : l.length ≤ 9223372036854775807) : Cuts l ⟨#[c]⟩ (cutA c l) (cutZ c l) (hasB c l) := fun W => by
  have := cut_any ⟨l.toArray⟩ ⟨#[c]⟩ c rfl W (by rw [arr_size]; exact h)
  rw [back_list] at this
  exact this.mono fun _ _ ⟨h1, q, h2⟩ => ⟨h1, h2 ▸ below_drewN' W q⟩

theorem cutA_len (c : UInt8) (l : List UInt8) : (cutA c l).length ≤ l.length := by simp [cutA]; omega
theorem cutZ_len (c : UInt8) (l : List UInt8) : (cutZ c l).length ≤ l.length := by simp [cutZ]

theorem address_any (l : List UInt8) (w : World) (h : l.length ≤ 9223372036854775807) (hT : Lib.Utf8Tabs 0 1 w) :
    Calls Tryd.prog 34 #[.string ⟨l.toArray⟩] w fun e w' => GaveJ (parseN l) e ∧ Below w.heap.size w w' := by
  have C1 := cuts_any l 47 h
  have hA := cutA_len 47 l
  have hZ := cutZ_len 47 l
  have C2 := cuts_any (cutA 47 l) 64 (by omega)
  have hA2 := cutA_len 64 (cutA 47 l)
  have hZ2 := cutZ_len 64 (cutA 47 l)
  have CL := parts_local (cutA 64 (cutA 47 l)) (by omega)
  have CH1 := parts_host (cutZ 64 (cutA 47 l)) (by omega)
  have CH2 := parts_host (cutA 47 l) (by omega)
  have CR := parts_res (cutZ 47 l) (by omega)
  unfold parseN partL partH partR
  generalize hasB 47 l = R at C1 ⊢
  generalize hasB 64 (cutA 47 l) = L at C2 ⊢
  generalize localN (cutA 64 (cutA 47 l)) = pL at CL ⊢
  generalize resN (cutZ 47 l) = pR at CR ⊢
  cases L with
  | true =>
    simp only [if_true]
    generalize hostN (cutZ 64 (cutA 47 l)) = pH1 at CH1 ⊢
    by_cases kL : pL.2 = 0
    · rw [if_neg (by simp [kL])]
      by_cases kH : pH1.2 = 0
      · rw [if_neg (by simp [kH])]
        cases R with
        | true =>
          simp only [if_true]
          by_cases kR : pR.2 = 0
          · rw [if_neg (by simp [kR])]
            exact (addr_tto l _ _ _ _ pL pH1 pR w hT C1 C2 CL kL CH1 kH CR kR).mono fun _ _ k => ⟨.inl ⟨rfl, k.1⟩, k.2⟩
          · rw [if_pos kR]
            exact (addr_ttR l _ _ _ _ pL pH1 pR w hT C1 C2 CL kL CH1 kH CR kR).mono fun _ _ k => ⟨.inr ⟨kR, k.1⟩, k.2⟩
        | false =>
          simp only [Bool.false_eq_true, if_false]
          rw [if_neg (by simp)]
          exact (addr_tfo l _ _ _ _ pL pH1 w hT C1 C2 CL kL CH1 kH).mono fun _ _ k => ⟨.inl ⟨rfl, k.1⟩, k.2⟩
      · rw [if_pos kH]
        cases R with
        | true => exact (addr_ttH l _ _ _ _ pL pH1 w hT C1 C2 CL kL CH1 kH).mono fun _ _ k => ⟨.inr ⟨kH, k.1⟩, k.2⟩
        | false => exact (addr_tfH l _ _ _ _ pL pH1 w hT C1 C2 CL kL CH1 kH).mono fun _ _ k => ⟨.inr ⟨kH, k.1⟩, k.2⟩
    · rw [if_pos kL]
      cases R with
      | true => exact (addr_ttL l _ _ _ _ pL w hT C1 C2 CL kL).mono fun _ _ k => ⟨.inr ⟨kL, k.1⟩, k.2⟩
      | false => exact (addr_tfL l _ _ _ _ pL w hT C1 C2 CL kL).mono fun _ _ k => ⟨.inr ⟨kL, k.1⟩, k.2⟩
  | false =>
    simp only [Bool.false_eq_true, if_false]
    generalize hostN (cutA 47 l) = pH2 at CH2 ⊢
    rw [if_neg (by simp)]
    by_cases kH : pH2.2 = 0
    · rw [if_neg (by simp [kH])]
      cases R with
      | true =>
        simp only [if_true]
        by_cases kR : pR.2 = 0
        · rw [if_neg (by simp [kR])]
          exact (addr_fto l _ _ _ _ pH2 pR w hT C1 C2 CH2 kH CR kR).mono fun _ _ k => ⟨.inl ⟨rfl, k.1⟩, k.2⟩
        · rw [if_pos kR]
          exact (addr_ftR l _ _ _ _ pH2 pR w hT C1 C2 CH2 kH CR kR).mono fun _ _ k => ⟨.inr ⟨kR, k.1⟩, k.2⟩
      | false =>
        simp only [Bool.false_eq_true, if_false]
        rw [if_neg (by simp)]
        exact (addr_ffo l _ _ _ _ pH2 w hT C1 C2 CH2 kH).mono fun _ _ k => ⟨.inl ⟨rfl, k.1⟩, k.2⟩
    · rw [if_pos kH]
      cases R with
      | true => exact (addr_ftH l _ _ _ _ pH2 w hT C1 C2 CH2 kH).mono fun _ _ k => ⟨.inr ⟨kH, k.1⟩, k.2⟩
      | false => exact (addr_ffH l _ _ _ _ pH2 w hT C1 C2 CH2 kH).mono fun _ _ k => ⟨.inr ⟨kH, k.1⟩, k.2⟩

theorem parseN_cases (l : List UInt8) : (parseN l).2 = 0 ∨ (parseN l).1 = noJid := by
  unfold parseN
  split
  · exact .inr rfl
  · split
    · exact .inr rfl
    · split
      · exact .inr rfl
      · exact .inl rfl

theorem cloParse_any (q : Addr) (l : List UInt8) (w : World) (hc : w.cell? q = some (.string ⟨l.toArray⟩)) (h : l.length ≤ 9223372036854775807) (hT : Lib.Utf8Tabs 0 1 w) :
    Calls Tryd.prog 33 #[.pointer (some q)] w fun e w' => GaveJ (parseN l) e ∧ Below w.heap.size w w' := by
  have hW : St w (w.alloc (.cells #[noS, noS, noS] 31)) noS noS noS := St.new w
  have hq := World.block_lt_of_cell? w _ hc
  have hc2 : (w.alloc (.cells #[noS, noS, noS] 31)).cell? q = some (.string ⟨l.toArray⟩) := (World.cell?_alloc_lt w _ q hq).trans hc
  have cI := address_any l (w.alloc (.cells #[noS, noS, noS] 31)) h (hW.tabs hT)
  generalize parseN l = p at cI ⊢
  obtain ⟨j, n⟩ := p
  by_cases h0 : n = 0
  · subst h0
    have cI' := cI.mono (fun e w' h => And.intro (h.1.elim (fun k => k.2) (fun k => absurd rfl k.1)) h.2 : ∀ e w', _ → (e = .returned (.agg #[.string ⟨j.l.toArray⟩, .string ⟨j.h.toArray⟩, .string ⟨j.r.toArray⟩]) ∧ _))
    clear cI
    go_enter Tryd.func33, Tryd.ntmps33
    go_wp2_with (go_at_call 34; refine cI'.mono ?_; rintro e w1 ⟨rfl, hb⟩; have h1 := hW.call hb; have a0 := h1.c0; have a1 := h1.c1; have a2 := h1.c2; have g0 := h1.f 0; have g1 := h1.f 1; have g2 := h1.f 2)
    refine ⟨rfl, .agg #[.string ⟨j.l.toArray⟩, .string ⟨j.h.toArray⟩, .string ⟨j.r.toArray⟩], by simp [results, Tryd.results33, go_sem, a0, a1, a2], .inl ⟨rfl, rfl⟩, ?_⟩
    exact (((h1.put0 _).put1 _).put2 _).below
  · have cI' := cI.mono (fun e w' h => And.intro (h.1.elim (fun k => absurd k.1 h0) (fun k => k.2)) h.2 : ∀ e w', _ → (e = .panicked (gaveUp n) ∧ _))
    clear cI
    go_enter Tryd.func33, Tryd.ntmps33
    go_wp2_with (go_at_call 34; refine cI'.mono ?_; rintro e w1 ⟨rfl, hb⟩; have h1 := hW.call hb)
    exact ⟨rfl, .inr ⟨h0, rfl⟩, h1.below⟩

theorem parse_any (l : List UInt8) (w : World) (h : l.length ≤ 9223372036854775807) (hT : Lib.Utf8Tabs 0 1 w) :
    Calls Tryd.prog 16 #[.string ⟨l.toArray⟩] w fun e w' => e = .returned (ToldJ (parseN l)) ∧ Below w.heap.size w w' := by
  have hmf : ∀ (fn : Fn) (first cap : Array Value) (w : World), (Instr.makeFunc fn first cap).run Tryd.prog w = .ok (.func fn first cap) w := fun _ _ _ _ => rfl
  have hb1 : Below w.heap.size w ((((w.alloc (.cells #[.string ⟨l.toArray⟩] 9)).alloc (.cells #[noS, noS, noS] 31)).alloc (.cells #[noS, noS, noS] 31)).alloc (.cells #[.int .i64 0] 23)) := (((below_new w _).alloc (by simp) _).alloc (by simp; omega) _).alloc (by simp; omega) _
  have hcc : ((((w.alloc (.cells #[.string ⟨l.toArray⟩] 9)).alloc (.cells #[noS, noS, noS] 31)).alloc (.cells #[noS, noS, noS] 31)).alloc (.cells #[.int .i64 0] 23)).cell? ⟨w.heap.size, 0, none⟩ = some (.string ⟨l.toArray⟩) := by
    rw [World.cell?_alloc_lt _ _ _ (by simp; omega), World.cell?_alloc_lt _ _ _ (by simp; omega)]
    exact cell_newer w _ _ _
  have hW : St (w.alloc (.cells #[.string ⟨l.toArray⟩] 9)) ((w.alloc (.cells #[.string ⟨l.toArray⟩] 9)).alloc (.cells #[noS, noS, noS] 31)) noS noS noS := St.new _
  have cB := begunJ_any 33 #[.pointer (some ⟨w.heap.size, 0, none⟩)] (parseN l) ((w.alloc (.cells #[.string ⟨l.toArray⟩] 9)).alloc (.cells #[noS, noS, noS] 31)) (enters_of Tryd.func33 (by kernel_rfl) rfl) (parseN_cases l)
    ((cloParse_any ⟨w.heap.size, 0, none⟩ l _ hcc h (tabs_below hT hb1)).mono (fun e w' h => ⟨h.1, by have := h.2; simpa using this⟩))
  generalize parseN l = p at cB ⊢
  unfold ToldJ cellsJ at cB ⊢
  go_enter Tryd.func16, Tryd.ntmps16
  go_wp2_with (go_at_call 32; refine cB.mono ?_; rintro e w1 ⟨rfl, hb⟩; have h1 := hW.call hb; have a0 := h1.c0; have a1 := h1.c1; have a2 := h1.c2; have g0 := h1.f 0; have g1 := h1.f 1; have g2 := h1.f 2; rw [World.size_alloc] at a0 a1 a2 g0 g1 g2)
  have hfin := (below_new w (.cells #[.string ⟨l.toArray⟩] 9)).trans ((((h1.put0 (.string ⟨p.1.l.toArray⟩)).put1 (.string ⟨p.1.h.toArray⟩)).put2 (.string ⟨p.1.r.toArray⟩)).below.mono (by simp))
  simp only [World.size_alloc] at hfin
  refine ⟨rfl, _, by simp [results, Tryd.results16, go_sem, a0, a1, a2], rfl, ?_⟩
  exact hfin
end Go.Proofs.YtikklhnkkfimfaaDoor
