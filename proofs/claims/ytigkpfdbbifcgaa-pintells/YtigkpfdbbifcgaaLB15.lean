/- Walk over Own15: the law PinTells. -/
import Derived.Test.YtigkpfdbbifcgaaV15
namespace Go.Proofs.Ytigkpfdbbifcgaa.Pj
open Go Go.RowKit

set_option maxRecDepth 100000 in
set_option maxHeartbeats 4000000 in
theorem tells_walk (O : Own15) (HA0 : ∀ w : World, Calls Try.prog 7 #[] w fun e w' => e = .returned (.bool true) ∧ Below w.heap.size w w') (v1 v2 : Value) (l m : List Pn) (id : Int) (w : World) (h1 : PRow w v1 l) (h2 : PRow w v2 m) (k1 : ∀ x ∈ l, okP x) (k2 : ∀ x ∈ m, okP x) (k3 : ok64 id) :
    Calls Try.prog 4 #[v1, v2, .int .i64 id] w fun e w' => e = .returned (.bool true) ∧ Below w.heap.size w w' := by
  have HAl := Lib.hid HA0
  have H1 := Lib.hid h1
  have H2 := Lib.hid h2
  obtain ⟨a1, c1, rfl, hc1, hl1⟩ := h1
  obtain ⟨a2, c2, rfl, hc2, hl2⟩ := h2
  clear hl1 hl2
  by_cases hq : 100 < l.length
  · have i1 : (100 : Int) < (l.length : Int) := by omega
    clear H1 H2
    go_enter Try.func4, Try.ntmps4
    go_wp2_with fail
    refine (HAl.out _).mono ?_
    rintro e w1 ⟨rfl, n1⟩
    go_wp2_with fail
    go_ret
    exact ⟨rfl, n1⟩
  · have i1 : ¬ (100 : Int) < (l.length : Int) := by omega
    by_cases hm : 100 < m.length
    · have i2 : (100 : Int) < (m.length : Int) := by omega
      clear H1 H2
      go_enter Try.func4, Try.ntmps4
      go_wp2_with fail
      refine (HAl.out _).mono ?_
      rintro e w1 ⟨rfl, n1⟩
      go_wp2_with fail
      go_ret
      exact ⟨rfl, n1⟩
    · have i2 : ¬ (100 : Int) < (m.length : Int) := by omega
      have HF := Lib.hid (fun W (d : Below w.heap.size w W) => O.find (.slice a1 l.length c1) l id W (H1.out.on d) (by omega) k1 k3)
      have HFR := Lib.hid (fun W (d : Below w.heap.size w W) => refFind_any (.slice a1 l.length c1) l id W (H1.out.on d) (by omega))
      have HT := Lib.hid (fun W (d : Below w.heap.size w W) => O.right (.slice a1 l.length c1) l W (H1.out.on d) (by omega) k1)
      have HTR := Lib.hid (fun W (d : Below w.heap.size w W) => refRight_any (.slice a1 l.length c1) l W (H1.out.on d) (by omega))
      have HS := Lib.hid (fun W (d : Below w.heap.size w W) => O.same (.slice a1 l.length c1) (.slice a2 m.length c2) l m W (H1.out.on d) (H2.out.on d) (by omega) (by omega) k1 k2)
      have HSR := Lib.hid (fun W (d : Below w.heap.size w W) => refSame_any (.slice a1 l.length c1) (.slice a2 m.length c2) l m W (H1.out.on d) (H2.out.on d) (by omega))
      generalize findP l id = F at *
      generalize rightP l = T at *
      generalize sameP l m = S at *
      obtain ⟨n, ok⟩ := F
      simp only at HF HFR
      have q0 : (n == n) = true := by simp
      have q1 : (ok == ok) = true := by simp
      have qT : (T == T) = true := by simp
      have qS : (S == S) = true := by simp
      clear k1 k2 k3 O H1 H2
      go_enter Try.func4, Try.ntmps4
      go_wp2_with fail
      refine (HAl.out _).mono ?_
      rintro e w1 ⟨rfl, n1⟩
      go_wp2_with fail
      refine (HF.out _ n1).mono ?_
      rintro e w2 ⟨rfl, n2⟩
      have n2 := n1.trans (n2.mono n1.size)
      go_wp2_with fail
      refine (HFR.out _ n2).mono ?_
      rintro e w3 ⟨rfl, rfl⟩
      go_wp2_with fail
      refine (HT.out _ n2).mono ?_
      rintro e w4 ⟨rfl, n4⟩
      have n4 := n2.trans (n4.mono n2.size)
      go_wp2_with fail
      refine (HTR.out _ n4).mono ?_
      rintro e w5 ⟨rfl, n5⟩
      have n5 := n4.trans (n5.mono n4.size)
      go_wp2_with fail
      refine (HS.out _ n5).mono ?_
      rintro e w6 ⟨rfl, n6⟩
      have n6 := n5.trans (n6.mono n5.size)
      go_wp2_with fail
      refine (HSR.out _ n6).mono ?_
      rintro e w7 ⟨rfl, n7⟩
      have n7 := n6.trans (n7.mono n6.size)
      go_wp2_with fail
      go_ret
      exact ⟨rfl, n7⟩
end Go.Proofs.Ytigkpfdbbifcgaa.Pj
