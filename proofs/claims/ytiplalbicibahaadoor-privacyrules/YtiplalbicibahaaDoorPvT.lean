/- privacy: a rule as text and back (pvt_gen.py writes this). -/
import Derived.Test.YtiplalbicibahaaDoorPvS
import Derived.Test.YtiplalbicibahaaDoorPvL
set_option maxRecDepth 100000
namespace Go.Proofs.YtiplalbicibahaaDoor
open Go.RowKit Go.Joins Go.Shelf

theorem sameR_any (a b : Rul) (w : World) : Calls Tryd.prog 9 #[rv a, rv b] w fun e w' => e = .returned (.bool (eqRul a b)) ∧ Below w.heap.size w w' := by
  obtain ⟨a1, a2, a3, a4, a5⟩ := a
  obtain ⟨c1, c2, c3, c4, c5⟩ := b
  have ek : ((ba a4).toList == (ba c4).toList) = (a4 == c4) := by rw [ba_eq, Lib.toList_data, ba_list]
  have ev : ((ba a5).toList == (ba c5).toList) = (a5 == c5) := by rw [ba_eq, Lib.toList_data, ba_list]
  have HR : Hid (RuAt ((w.alloc (.cells (rc ⟨a1, a2, a3, a4, a5⟩) 23)).alloc (.cells (rc ⟨c1, c2, c3, c4, c5⟩) 23)) w.heap.size ⟨a1, a2, a3, a4, a5⟩ ∧ RuAt ((w.alloc (.cells (rc ⟨a1, a2, a3, a4, a5⟩) 23)).alloc (.cells (rc ⟨c1, c2, c3, c4, c5⟩) 23)) (w.heap.size + 1) ⟨c1, c2, c3, c4, c5⟩ ∧ Below w.heap.size w ((w.alloc (.cells (rc ⟨a1, a2, a3, a4, a5⟩) 23)).alloc (.cells (rc ⟨c1, c2, c3, c4, c5⟩) 23))) :=
    ⟨push_old (push_at _ _ rfl), push_at _ _ (by simp), below2 w _ _⟩
  unfold eqRul
  dsimp only
  generalize q1 : (a1 == c1) = y1
  generalize q2 : (a2 == c2) = y2
  generalize q3 : (a3 == c3) = y3
  generalize (a4 == c4) = y4 at *
  generalize (a5 == c5) = y5 at *
  show Calls _ _ #[.agg (rc _), .agg (rc _)] _ _
  unfold rc
  unfold rc at HR
  go_enter Tryd.func9, Tryd.ntmps9
  go_upto_region 1 with fail
  generalize (w.alloc _).alloc _ = W at HR ⊢
  have u0 := HR.out.1.c0
  have u1 := HR.out.1.c1
  have u2 := HR.out.1.c2
  have u3 := HR.out.1.c3
  have u4 := HR.out.1.c4
  have v0 := HR.out.2.1.c0
  have v1 := HR.out.2.1.c1
  have v2 := HR.out.2.1.c2
  have v3 := HR.out.2.1.c3
  have v4 := HR.out.2.1.c4
  dsimp only at u0 u1 u2 u3 u4 v0 v1 v2 v3 v4
  cases y1 with
  | false =>
    go_wp2
    go_ret
    exact ⟨rfl, HR.out.2.2⟩
  | true =>
    cases y2 with
    | false =>
      go_wp2
      go_ret
      exact ⟨rfl, HR.out.2.2⟩
    | true =>
      cases y3 with
      | false =>
        go_wp2
        go_ret
        exact ⟨rfl, HR.out.2.2⟩
      | true =>
        cases y4 with
        | false =>
          go_wp2
          go_ret
          exact ⟨rfl, HR.out.2.2⟩
        | true =>
          cases y5 with
          | false =>
            go_wp2
            go_ret
            exact ⟨rfl, HR.out.2.2⟩
          | true =>
            go_wp2
            go_ret
            exact ⟨rfl, HR.out.2.2⟩
def qtv (r : Rul) : Value := .tuple #[.string (ba (if okT r = true then writtenR r else [])), .bool (okT r)]
set_option maxHeartbeats 1600000 in
theorem qtext_any (r : Rul) (w : World) (hz : r.k.length + r.v.length ≤ 281474976710000) : Calls Tryd.prog 11 #[rv r] w fun e w' => e = .returned (qtv r) ∧ Below w.heap.size w w' := by
  have hwl := writeQ_len r
  have cW := fun w => qwrite_any r w hz
  have cP := fun W => qparse_any (writeQ r) W (by omega)
  have HR : Hid (RuAt (w.alloc (.cells (rc r) 23)) w.heap.size r ∧ Below w.heap.size w (w.alloc (.cells (rc r) 23))) := ⟨push_at _ _ rfl, below1 _ _⟩
  have hE : qtv r = .tuple #[.string (ba (if okQ r = true then writeQ r else [])), .bool (okQ r)] := by
    unfold qtv
    rw [← ok_same]
    cases h : okQ r with
    | true => rw [write_ok h]
    | false => rfl
  rw [hE]
  unfold okQ
  unfold prv at cP
  clear hwl hz hE
  generalize parseR (writeQ r) = p at *
  obtain ⟨r2, n⟩ := p
  dsimp only at cP ⊢
  obtain ⟨V, HV⟩ : ∃ V, Hid (rv r2 = V) := ⟨_, rfl⟩
  rw [HV.out] at cP
  generalize writeQ r = T at *
  obtain ⟨RR, HRR⟩ : ∃ RR, Hid (Value.tuple #[.string (ba (if (n == 0 && eqRul r2 r) = true then T else [])), .bool (n == 0 && eqRul r2 r)] = RR) := ⟨_, rfl⟩
  rw [HRR.out]
  show Calls _ _ #[.agg (rc r)] _ _
  unfold rc
  unfold rc at HR
  go_enter Tryd.func11, Tryd.ntmps11
  go_upto_region 1 with fail
  generalize w.alloc _ = X at HR ⊢
  obtain ⟨B, HB⟩ : ∃ B, Hid (w.heap.size = B) := ⟨_, rfl⟩
  rw [HB.out] at HR ⊢
  go_upto_region 3 with (first
    | (refine wp_load_ru rfl (.tmp 1) rfl B rfl r HR.out.1 ?_)
    | (go_at_call 24; refine (cW _).mono ?_; clear cW; rintro e w1 ⟨rfl, hb1⟩; have R1 : Hid (RuAt w1 B r ∧ Below B w w1) := ⟨HR.out.1.carry hb1, HR.out.2.trans (hb1.mono (by have := HR.out.2.size; have := HB.out; omega))⟩; clear hb1)
    | (go_at_call 8; refine (cP _).mono ?_; clear cP; rintro e w2 ⟨rfl, hb2⟩; have R2 : Hid (RuAt w2 B r ∧ Below B w w2) := ⟨R1.out.1.carry hb2, R1.out.2.trans (hb2.mono (by have := R1.out.2.size; have := HB.out; omega))⟩; clear hb2 R1)
    | (refine wp_store_ru rfl (.tmp 5) (.tmp 12) rfl w2.heap.size rfl r2 HV.out.symm r0 (push_at _ _ rfl) ?_))
  have R3 : Hid (RuAt ((w2.alloc oRul).setRow w2.heap.size (rc r2)) B r ∧ RuAt ((w2.alloc oRul).setRow w2.heap.size (rc r2)) w2.heap.size r2 ∧ Below B w ((w2.alloc oRul).setRow w2.heap.size (rc r2))) := by
    have hb : Below w2.heap.size w2 ((w2.alloc oRul).setRow w2.heap.size (rc r2)) := (below1 w2 oRul).trans ((rowK (w2.alloc oRul) w2.heap.size _).below (by simp) (fun j e => by omega))
    exact ⟨R2.out.1.carry hb, RuAt.set (w := w2.alloc oRul) (r := r0) (push_at _ _ rfl) _, R2.out.2.trans (hb.mono (by have := R2.out.2.size; have := HB.out; omega))⟩
  generalize (w2.alloc _).setRow _ _ = w3 at R3 ⊢
  generalize w2.heap.size = g at R3 ⊢
  clear R2 HR HV
  obtain ⟨a1, a2, a3, a4, a5⟩ := r2
  obtain ⟨c1, c2, c3, c4, c5⟩ := r
  have ek : ((ba a4).toList == (ba c4).toList) = (a4 == c4) := by rw [ba_eq, Lib.toList_data, ba_list]
  have ev : ((ba a5).toList == (ba c5).toList) = (a5 == c5) := by rw [ba_eq, Lib.toList_data, ba_list]
  have u0 := R3.out.1.c0
  have u1 := R3.out.1.c1
  have u2 := R3.out.1.c2
  have u3 := R3.out.1.c3
  have u4 := R3.out.1.c4
  have v0 := R3.out.2.1.c0
  have v1 := R3.out.2.1.c1
  have v2 := R3.out.2.1.c2
  have v3 := R3.out.2.1.c3
  have v4 := R3.out.2.1.c4
  dsimp only at u0 u1 u2 u3 u4 v0 v1 v2 v3 v4
  have e := HRR.out
  unfold eqRul at e
  dsimp only at e
  have q1' : (a1 != c1) = !(a1 == c1) := rfl
  have q2' : (a2 != c2) = !(a2 == c2) := rfl
  have q3' : (a3 != c3) = !(a3 == c3) := rfl
  generalize q1 : (a1 == c1) = y1 at *
  generalize q2 : (a2 == c2) = y2 at *
  generalize q3 : (a3 == c3) = y3 at *
  generalize (a4 == c4) = y4 at *
  generalize (a5 == c5) = y5 at *
  replace HRR : Hid _ := e
  clear e
  by_cases h0 : n = 0
  · subst h0
    cases y1 with
    | false =>
      go_wp2
      go_ret2
      refine ⟨?_, by rw [HB.out]; exact R3.out.2.2⟩
      rw [← HRR.out]
      rfl
    | true =>
      cases y2 with
      | false =>
        go_wp2
        go_ret2
        refine ⟨?_, by rw [HB.out]; exact R3.out.2.2⟩
        rw [← HRR.out]
        rfl
      | true =>
        cases y3 with
        | false =>
          go_wp2
          go_ret2
          refine ⟨?_, by rw [HB.out]; exact R3.out.2.2⟩
          rw [← HRR.out]
          rfl
        | true =>
          cases y4 with
          | false =>
            go_wp2
            go_ret2
            refine ⟨?_, by rw [HB.out]; exact R3.out.2.2⟩
            rw [← HRR.out]
            rfl
          | true =>
            cases y5 with
            | false =>
              go_wp2
              go_ret2
              refine ⟨?_, by rw [HB.out]; exact R3.out.2.2⟩
              rw [← HRR.out]
              rfl
            | true =>
              go_wp2
              go_ret2
              refine ⟨?_, by rw [HB.out]; exact R3.out.2.2⟩
              rw [← HRR.out]
              rfl
  · have hd : ((n : Int) != 0) = true := by simp; omega
    have hn : Hid ((n == 0) = false) := by show (n == 0) = false; simp [h0]
    clear h0
    go_wp2
    go_ret2
    refine ⟨?_, by rw [HB.out]; exact R3.out.2.2⟩
    rw [← HRR.out, hn.out]
    rfl
end Go.Proofs.YtiplalbicibahaaDoor
