/- creds.Write. -/
import Derived.Test.YtiidjdedeenijaaDoorCrM
import Derived.Test.YtiidjdedeenijaaDoorNmFun
import Derived.Test.YtiidjdedeenijaaDoorTexts
import Derived.Test.YtiidjdedeenijaaDoorPut
namespace Go.Proofs.YtiidjdedeenijaaDoor
open Go.RowKit

/-- Is a name prepared? -/
def prepB (u : ByteArray) : Bool := decide ((Nm.localN u.data.toList).2 = 0 ∧ (Nm.localN u.data.toList).1 = u.data.toList)

theorem str_eq_tx {l : List UInt8} {u : ByteArray} : ((⟨l.toArray⟩ : ByteArray).toList == u.toList) = decide (l = u.data.toList) := by
  rw [Lib.toList_data, Lib.toList_data]
  by_cases h : l = u.data.toList
  · rw [h]; simp
  · rw [decide_eq_false h, beq_eq_false_iff_ne]
    simpa using h

set_option maxRecDepth 100000 in
set_option maxHeartbeats 800000 in
theorem isPrep_any (u : ByteArray) (w : World) (hu : u.size ≤ 9223372036854775807) (hT : Lib.Utf8Tabs 0 1 w) :
    Calls Tryd.prog 30 #[.string u] w fun e w' => e = .returned (.bool (prepB u)) ∧ Below w.heap.size w w' := by
  have c := Nm.local_any u w hu hT
  obtain ⟨l, x, hl⟩ : ∃ l x, Nm.localN u.data.toList = (l, x) := ⟨_, _, rfl⟩
  have hE : prepB u = decide (x = 0 ∧ l = u.data.toList) := by unfold prepB; rw [hl]
  rw [hl] at c
  unfold Nm.Told at c
  dsimp only at c
  rw [hE]
  have hq := @str_eq_tx l u
  by_cases h1 : x = 0
  · subst h1
    by_cases h2 : l = u.data.toList
    · rw [decide_eq_true h2] at hq
      rw [decide_eq_true ⟨rfl, h2⟩]
      clear h2 hE hl
      generalize (⟨l.toArray⟩ : ByteArray) = L at c hq
      go_enter Tryd.func30, Tryd.ntmps30
      go_wp2_with (go_at_call 19; refine c.mono ?_; rintro e w1 ⟨rfl, hb⟩)
      go_ret
      exact ⟨rfl, hb⟩
    · rw [decide_eq_false h2] at hq
      rw [decide_eq_false (fun h => h2 h.2)]
      clear h2 hE hl
      generalize (⟨l.toArray⟩ : ByteArray) = L at c hq
      go_enter Tryd.func30, Tryd.ntmps30
      go_wp2_with (go_at_call 19; refine c.mono ?_; rintro e w1 ⟨rfl, hb⟩)
      go_ret
      exact ⟨rfl, hb⟩
  · have hx : (((x : Nat) : Int) == 0) = false := by simpa using h1
    rw [decide_eq_false (fun h => h1 h.1)]
    clear h1 hE hl
    generalize ((x : Nat) : Int) = X at c hx
    go_enter Tryd.func30, Tryd.ntmps30
    go_wp2_with (go_at_call 19; refine c.mono ?_; rintro e w1 ⟨rfl, hb⟩)
    go_ret
    exact ⟨rfl, hb⟩

set_option maxHeartbeats 800000 in
theorem isRounds_any (z : Int) (w : World) : Calls Tryd.prog 31 #[.int .i64 z] w fun e w' => e = .returned (.bool (decide (1 ≤ z ∧ z ≤ 4096))) ∧ w' = w := by
  by_cases h1 : 1 ≤ z
  · by_cases h2 : z ≤ 4096
    · rw [decide_eq_true ⟨h1, h2⟩]
      go_enter Tryd.func31, Tryd.ntmps31
      go_wp2
      go_ret
      exact ⟨rfl, rfl⟩
    · rw [decide_eq_false (fun h => h2 h.2)]
      go_enter Tryd.func31, Tryd.ntmps31
      go_wp2
      go_ret
      exact ⟨rfl, rfl⟩
  · rw [decide_eq_false (fun h => h1 h.1)]
    go_enter Tryd.func31, Tryd.ntmps31
    go_wp2
    go_ret
    exact ⟨rfl, rfl⟩

/-- Can it be written? -/
def rightB (u : ByteArray) (n : Nat) (z : Int) : Bool := prepB u && decide (1 ≤ n ∧ n ≤ 32) && decide (1 ≤ z ∧ z ≤ 4096)
/-- The form of a record. -/
def recForm (u : ByteArray) (ss : List Int) (z : Nat) (K V : List Int) : List Int := form u.size ++ nums u ++ form ss.length ++ ss ++ form z ++ K ++ V

theorem rec_rdK {w : World} {g : Nat} {x0 x1 x2 : Value} {K V : List Int} (h : RcAt w g (recL x0 x1 x2 K V)) (hK : K.length = 32) (hb : Bd K) : Rd w (some ⟨g, 3, none⟩) 32 32 K := by
  refine ⟨hK, Nat.le_refl _, by unfold maxLen; omega, (fun h => by cases h), hb, fun ad had j hj => ?_⟩
  cases had
  rw [add_flat]
  exact h.st j _ (by simp [ic, List.getD, List.getElem?_eq_getElem (show j < K.length by omega)])
theorem rec_rdV {w : World} {g : Nat} {x0 x1 x2 : Value} {K V : List Int} (h : RcAt w g (recL x0 x1 x2 K V)) (hK : K.length = 32) (hV : V.length = 32) (hb : Bd V) : Rd w (some ⟨g, 35, none⟩) 32 32 V := by
  refine ⟨hV, Nat.le_refl _, by unfold maxLen; omega, (fun h => by cases h), hb, fun ad had j hj => ?_⟩
  cases had
  rw [add_flat]
  exact h.sv hK j _ (by simp [ic, List.getD, List.getElem?_eq_getElem (show j < V.length by omega)])

set_option maxRecDepth 100000 in
set_option maxHeartbeats 1600000 in
theorem write_bad (u : ByteArray) (a : Option Addr) (n c : Nat) (z : Int) (K V : List Int) (w : World) (hu : u.size ≤ 9223372036854775807) (hT : Lib.Utf8Tabs 0 1 w) (h : rightB u n z = false) :
    Calls Tryd.prog 13 #[.agg (recL (.string u) (.slice a n c) (.int .i64 z) K V).toArray] w fun e w' => e = .returned (.tuple #[.slice none 0 0, .int .i64 1]) ∧ Below w.heap.size w w' := by
  have cP := fun v hb => isPrep_any u v hu (Nm.tabs_below hT hb)
  have cS := fun v => isSalt_any a n c v
  have cR := fun v => isRounds_any z v
  unfold rightB at h
  generalize prepB u = b1 at *
  generalize decide (1 ≤ n ∧ n ≤ 32) = b2 at *
  generalize decide (1 ≤ z ∧ z ≤ 4096) = b3 at *
  cases b1 with
  | false =>
    go_enter Tryd.func13, Tryd.ntmps13
    go_wp2_with (first
      | (refine wp_box_row rfl 28 (.tmp 0) rfl (recL (.string u) (.slice a n c) (.int .i64 z) K V) rfl ?_; intro g1 w1 R1 hg1 hb1; have A1 : RcAt w1 g1 _ := R1; have p0 := A1.cell 0; change _ = some _ at p0)
      | (go_at_call 30; refine (cP _ hb1).mono ?_; rintro e w2 ⟨rfl, hb2⟩; have e2 := hb1.trans (hb2.mono hb1.size)))
    go_ret2
    exact ⟨rfl, e2⟩
  | true =>
    cases b2 with
    | false =>
      go_enter Tryd.func13, Tryd.ntmps13
      go_wp2_with (first
        | (refine wp_box_row rfl 28 (.tmp 0) rfl (recL (.string u) (.slice a n c) (.int .i64 z) K V) rfl ?_; intro g1 w1 R1 hg1 hb1; have A1 : RcAt w1 g1 _ := R1; have p0 := A1.cell 0; change _ = some _ at p0)
        | (go_at_call 30; refine (cP _ hb1).mono ?_; rintro e w2 ⟨rfl, hb2⟩; have e2 := hb1.trans (hb2.mono hb1.size); have p1 := (A1.below hb2).cell 1; change _ = some _ at p1)
        | (go_at_call 21; refine (cS _).mono ?_; rintro e w3 ⟨rfl, rfl⟩))
      go_ret2
      exact ⟨rfl, e2⟩
    | true =>
      obtain rfl : b3 = false := by simpa using h
      go_enter Tryd.func13, Tryd.ntmps13
      go_wp2_with (first
        | (refine wp_box_row rfl 28 (.tmp 0) rfl (recL (.string u) (.slice a n c) (.int .i64 z) K V) rfl ?_; intro g1 w1 R1 hg1 hb1; have A1 : RcAt w1 g1 _ := R1; have p0 := A1.cell 0; change _ = some _ at p0)
        | (go_at_call 30; refine (cP _ hb1).mono ?_; rintro e w2 ⟨rfl, hb2⟩; have e2 := hb1.trans (hb2.mono hb1.size); have p1 := (A1.below hb2).cell 1; change _ = some _ at p1; have p2 := (A1.below hb2).cell 2; change _ = some _ at p2)
        | (go_at_call 21; refine (cS _).mono ?_; rintro e w3 ⟨rfl, rfl⟩)
        | (go_at_call 31; refine (cR _).mono ?_; rintro e w4 ⟨rfl, rfl⟩))
      go_ret2
      exact ⟨rfl, e2⟩

theorem form_le10 (k : Nat) (hk : k < 18446744073709551616) : (form k).length ≤ 10 := by have := form_len10 k hk; omega

set_option maxRecDepth 100000 in
set_option maxHeartbeats 3200000 in
theorem write_ok (u : ByteArray) (a : Option Addr) (n c : Nat) (ss : List Int) (z : Nat) (K V : List Int) (w : World) (hu : u.size ≤ 1000) (hR : Rd w a n c ss) (hK : K.length = 32) (hV : V.length = 32) (bK : Bd K) (bV : Bd V) (hT : Lib.Utf8Tabs 0 1 w) (h : rightB u n z = true) :
    Calls Tryd.prog 13 #[.agg (recL (.string u) (.slice a n c) (.int .i64 z) K V).toArray] w fun e w' => ∃ a' m' c', e = .returned (.tuple #[.slice a' m' c', .int .i64 0]) ∧ Rd w' a' m' c' (recForm u ss z K V) ∧ Below w.heap.size w w' := by
  have cP := fun v hb => isPrep_any u v (by omega) (Nm.tabs_below hT hb)
  have cS := fun v => isSalt_any a n c v
  have cR := fun v => isRounds_any (z : Int) v
  have hnl := hR.len
  unfold rightB at h
  simp only [Bool.and_eq_true] at h
  obtain ⟨⟨h1, h2⟩, h3⟩ := h
  have hn32 : n ≤ 32 := (of_decide_eq_true h2).2
  have hz96 : (z : Int) ≤ 4096 := (of_decide_eq_true h3).2
  rw [h1] at cP
  rw [h2] at cS
  rw [h3] at cR
  have hfu := form_le10 u.size (by omega)
  have hfn := form_le10 n (by omega)
  have hfz := form_le10 z (by omega)
  have hnu := nums_len u
  have hbu := nums_bd u
  have bs := hR.bytes
  have bfu := form_bd u.size
  have bfn := form_bd n
  have bfz := form_bd z
  obtain ⟨X1, HX1⟩ : ∃ X, Hid (form u.size ++ nums u = X) := ⟨_, rfl⟩
  have l1 : X1.length ≤ 1010 := by rw [← HX1.out, List.length_append]; omega
  have b1 : Bd X1 := by rw [← HX1.out]; exact bfu.append hbu
  have tk1 : True := trivial
  have tk2 : True := trivial
  have tk3 : True := trivial
  go_enter Tryd.func13, Tryd.ntmps13
  go_upto_region 4 with (first
    | (refine wp_box_row rfl 28 (.tmp 0) rfl (recL (.string u) (.slice a n c) (.int .i64 z) K V) rfl ?_; intro g1 w1 R1 hg1 hb1; have A1 : RcAt w1 g1 _ := R1; have p0 := A1.cell 0; change _ = some _ at p0)
    | (go_at_call 30; refine (cP _ hb1).mono ?_; rintro e w2 ⟨rfl, hb2⟩; have e2 := hb1.trans (hb2.mono hb1.size); have A2 := A1.below hb2; have p1 := A2.cell 1; change _ = some _ at p1; have p2 := A2.cell 2; change _ = some _ at p2; have p02 := A2.cell 0; change _ = some _ at p02)
    | (go_at_call 21; refine (cS _).mono ?_; rintro e w3 ⟨rfl, rfl⟩)
    | (go_at_call 31; refine (cR _).mono ?_; rintro e w4 ⟨rfl, rfl⟩)
    | (go_at_call 32; refine (putText_any none 0 0 [] u _ (rd_nilK _) (by omega) (by omega)).mono ?_; rintro e w5 ⟨v5, rfl, ho5, hb5⟩))
  simp only [List.nil_append] at ho5
  rw [HX1.out] at ho5
  have n5 : 0 + (form u.size).length + u.size = X1.length := by rw [← HX1.out, List.length_append]; omega
  rw [n5] at ho5
  obtain ⟨a5, c5, rfl, hR5⟩ := Rd.ofOwn ho5 b1
  have e5 := e2.trans (hb5.mono e2.size)
  have A5 := A2.below hb5
  have p15 := A5.cell 1
  change _ = some _ at p15
  clear cP cS cR A1 p0 p1 p2 p02 hb5 ho5 n5 hb2
  obtain ⟨X2, HX2⟩ : ∃ X, Hid (X1 ++ form n = X) := ⟨_, rfl⟩
  have l2 : Hid (X2.length = X1.length + (form n).length) := by show X2.length = X1.length + (form n).length; rw [← HX2.out, List.length_append]
  have m2 : X2.length ≤ 1100 := by have := l2.out; omega
  have b2 : Bd X2 := by rw [← HX2.out]; exact b1.append bfn
  have cU := putUint_any a5 _ c5 X1 n _ hR5 (by omega) (by omega)
  go_upto_region 5 with (first
    | (go_at_call 33; refine cU.mono ?_; rintro e w6 ⟨v6, rfl, ho6, hb6⟩))
  rw [HX2.out, ← l2.out] at ho6
  have hR6 := hR.carry (Nat.le_refl _) (e5.trans (hb6.mono e5.size))
  have p16 := (A5.below hb6).cell 1
  change _ = some _ at p16
  obtain ⟨X3, HX3⟩ : ∃ X, Hid (X2 ++ ss = X) := ⟨_, rfl⟩
  have l3 : Hid (X3.length = X2.length + n) := by show X3.length = X2.length + n; rw [← HX3.out, List.length_append, hnl]
  have m3 : X3.length ≤ 1200 := by have := l3.out; omega
  have b3 : Bd X3 := by rw [← HX3.out]; exact b2.append bs
  clear cU hR5 p15
  go_upto_region 6 with (first
    | (at_builtin; refine wp_appK rfl (.tmp 30) (.tmp 32) rfl w5.heap.size v6 X2.length X2 rfl ho6 a n c ss rfl hR6 (by omega) hb6.size ?_; intro v7 w7 ho7 hg7 _))
  have b7 : Below w5.heap.size w5 w7 := hb6.grown hg7 hb6.size (fun k hk => (ho6.lt k hk).1)
  rw [HX3.out, ← l3.out] at ho7
  obtain ⟨a7, c7, rfl, hR7⟩ := Rd.ofOwn ho7 b3
  have e7 := e5.trans (b7.mono e5.size)
  have A7 := A5.below b7
  have p27 := A7.cell 2
  change _ = some _ at p27
  obtain ⟨X4, HX4⟩ : ∃ X, Hid (X3 ++ form z = X) := ⟨_, rfl⟩
  have l4 : Hid (X4.length = X3.length + (form z).length) := by show X4.length = X3.length + (form z).length; rw [← HX4.out, List.length_append]
  have m4 : X4.length ≤ 1300 := by have := l4.out; omega
  have b4 : Bd X4 := by rw [← HX4.out]; exact b3.append bfz
  have cU := putUint_any a7 _ c7 X3 z _ hR7 (by omega) (by omega)
  clear ho6 hg7 hb6 ho7 hR6 p16 A5
  go_upto_region 7 with (first
    | (go_at_call 33; refine cU.mono ?_; rintro e w8 ⟨v8, rfl, ho8, hb8⟩))
  rw [HX4.out, ← l4.out] at ho8
  have A8 := A7.below hb8
  have hRK := rec_rdK A8 hK bK
  obtain ⟨X5, HX5⟩ : ∃ X, Hid (X4 ++ K = X) := ⟨_, rfl⟩
  have l5 : Hid (X5.length = X4.length + 32) := by show X5.length = X4.length + 32; rw [← HX5.out, List.length_append, hK]
  have m5 : X5.length ≤ 1400 := by have := l5.out; omega
  have b5 : Bd X5 := by rw [← HX5.out]; exact b4.append bK
  clear cU hR7 p27
  go_upto_region 8 with (first
    | (at_builtin; refine wp_appK rfl (.tmp 39) (.tmp 41) rfl w7.heap.size v8 X4.length X4 rfl ho8 _ 32 32 K rfl hRK (by omega) hb8.size ?_; intro v9 w9 ho9 hg9 _))
  have b9 : Below w7.heap.size w7 w9 := hb8.grown hg9 hb8.size (fun k hk => (ho8.lt k hk).1)
  rw [HX5.out, ← l5.out] at ho9
  have A9 := A7.below b9
  have hRV := rec_rdV A9 hK hV bV
  obtain ⟨X6, HX6⟩ : ∃ X, Hid (X5 ++ V = X) := ⟨_, rfl⟩
  have l6 : Hid (X6.length = X5.length + 32) := by show X6.length = X5.length + 32; rw [← HX6.out, List.length_append, hV]
  have m6 : X6.length ≤ 1500 := by have := l6.out; omega
  have b6 : Bd X6 := by rw [← HX6.out]; exact b5.append bV
  go_wp2_with (first
    | (at_builtin; refine wp_appK rfl (.tmp 43) (.tmp 45) rfl w7.heap.size v9 X5.length X5 rfl ho9 _ 32 32 V rfl hRV (by omega) b9.size ?_; intro v10 w10 ho10 hg10 _))
  have b10 : Below w7.heap.size w7 w10 := b9.grown hg10 b9.size (fun k hk => (ho9.lt k hk).1)
  rw [HX6.out, ← l6.out] at ho10
  obtain ⟨a10, c10, hv10, hR10⟩ := Rd.ofOwn ho10 b6
  go_ret2
  refine ⟨a10, X6.length, c10, ?_, ?_, e7.trans (b10.mono e7.size)⟩
  · rw [← hv10]; rfl
  · have : recForm u ss z K V = X6 := by unfold recForm; rw [hnl, HX1.out, HX2.out, HX3.out, HX4.out, HX5.out, HX6.out]
    rw [this]; exact hR10

end Go.Proofs.YtiidjdedeenijaaDoor
