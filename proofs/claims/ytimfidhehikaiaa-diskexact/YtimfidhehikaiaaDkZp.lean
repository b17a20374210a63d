/- The law's plays, whatever the call. -/
import Derived.Test.YtimfidhehikaiaaDkZp1
import Derived.Test.YtimfidhehikaiaaDkZp2
import Derived.Test.YtimfidhehikaiaaDkZp3
namespace Go.Proofs.Ytimfidhehikaiaa
open Go.RowKit Go.Joins

theorem plays_any (d rd : Nat) (F G : Nat → Prop) (k : Dk) (On Do : Int) (A B : Nm) (ar : Option Addr) (nr cr : Nat) (xs : List Int) (Nn : Int) (ak : Option Addr) (nk ck : Nat) (zs : List Int) (hA : A.size ≤ 9223372036854775807) (hB : B.size ≤ 9223372036854775807) (hN : Nn ≤ 9223372036854775807) (hst : k.steps < 999999) (hfl : k.fs.length < 999998) (W w : World) (hbW : Below W.heap.size W w) (hRd : Rd W ar nr cr xs) (hKa : IAr W ak nk ck zs) (hFW : ∀ i, F i → W.heap.size ≤ i) (hGW : ∀ i, G i → W.heap.size ≤ i) (hBt : Both w F G d rd k) :
    Calls Try.prog 10 #[.pointer (some ⟨d, 0, none⟩), .pointer (some ⟨rd, 0, none⟩), .agg #[.int .i64 On, .int .i64 Do, .string A, .string B, .slice ar nr cr, .int .i64 Nn, .slice ak nk ck]] w fun e w' => e = .returned (.bool true) ∧ ∃ k', Gr k k' ∧ Bp w F G d rd k' w' := by
  by_cases h1 : Do = 1
  · exact plays_1 d rd F G k On Do A B ar nr cr xs Nn ak nk ck zs hA hB hN hst hfl W w hbW hRd hKa hFW hGW hBt h1
  by_cases h2 : Do = 2
  · exact plays_2 d rd F G k On Do A B ar nr cr xs Nn ak nk ck zs hA hB hN hst hfl W w hbW hRd hKa hFW hGW hBt h2
  by_cases h3 : Do = 3
  · exact plays_3 d rd F G k On Do A B ar nr cr xs Nn ak nk ck zs hA hB hN hst hfl W w hbW hRd hKa hFW hGW hBt h3
  by_cases h4 : Do = 4
  · exact plays_4 d rd F G k On Do A B ar nr cr xs Nn ak nk ck zs hA hB hN hst hfl W w hbW hRd hKa hFW hGW hBt h4
  by_cases h5 : Do = 5
  · exact plays_5 d rd F G k On Do A B ar nr cr xs Nn ak nk ck zs hA hB hN hst hfl W w hbW hRd hKa hFW hGW hBt h5
  by_cases h6 : Do = 6
  · exact plays_6 d rd F G k On Do A B ar nr cr xs Nn ak nk ck zs hA hB hN hst hfl W w hbW hRd hKa hFW hGW hBt h6
  by_cases h7 : Do = 7
  · exact plays_7 d rd F G k On Do A B ar nr cr xs Nn ak nk ck zs hA hB hN hst hfl W w hbW hRd hKa hFW hGW hBt h7
  by_cases h8 : Do = 8
  · exact plays_8 d rd F G k On Do A B ar nr cr xs Nn ak nk ck zs hA hB hN hst hfl W w hbW hRd hKa hFW hGW hBt h8
  by_cases h9 : Do = 9
  · exact plays_9 d rd F G k On Do A B ar nr cr xs Nn ak nk ck zs hA hB hN hst hfl W w hbW hRd hKa hFW hGW hBt h9
  exact plays_0 d rd F G k On Do A B ar nr cr xs Nn ak nk ck zs hA hB hN hst hfl W w hbW hRd hKa hFW hGW hBt h1 h2 h3 h4 h5 h6 h7 h8 h9

end Go.Proofs.Ytimfidhehikaiaa
