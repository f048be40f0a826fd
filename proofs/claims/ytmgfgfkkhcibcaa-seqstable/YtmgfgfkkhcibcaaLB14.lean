/- Walk over Own14: the law SeqStable. -/
import Derived.Test.YtmgfgfkkhcibcaaV14
namespace Go.Proofs.Ytmgfgfkkhcibcaa.Se
open Go Go.RowKit

set_option maxRecDepth 100000 in
set_option maxHeartbeats 4000000 in
theorem stable_walk (O : Own14) (HA0 : ∀ w : World, Calls Try.prog 7 #[] w fun e w' => e = .returned (.bool true) ∧ Below w.heap.size w w') (last win : Int) (v : Value) (L : List (List Wr)) (w : World) (h : LRow w v L) (k1 : ∀ q ∈ L, ∀ x ∈ q, okW x) (k2 : ok64 last) (k3 : ok64 win) :
    Calls Try.prog 4 #[.int .i64 last, v, .int .i64 win] w fun e w' => e = .returned (.bool true) ∧ Below w.heap.size w w' := by
  have HAl := Lib.hid HA0
  have H := Lib.hid h
  have HG := Lib.hid (fun W (d : Below w.heap.size w W) => refGreat_any v L W (h.on d))
  cases hg : greatL L
  rotate_left
  · rw [hg] at HG
    obtain ⟨a, c, rfl, -, -⟩ := h.open
    clear h k1
    go_enter Try.func4, Try.ntmps4
    go_wp2_with fail
    refine (HAl.out _).mono ?_
    rintro e w1 ⟨rfl, n1⟩
    go_wp2_with fail
    refine (HG.out _ n1).mono ?_
    rintro e w2 ⟨rfl, rfl⟩
    go_wp2_with fail
    go_ret
    exact ⟨rfl, n1⟩
  · rw [hg] at HG
    obtain ⟨hl, hq⟩ := greatL_not hg
    have hq2 : ∀ q ∈ L, q.length ≤ 1000 := fun q h => Nat.le_trans (hq q h) (by omega)
    have hq3 : ∀ q ∈ L, q.length ≤ 1000000 := fun q h => Nat.le_trans (hq q h) (by omega)
    have hp := pending_le hq
    have hpk : ∀ k, pending (L.take k) ≤ 1000000000 := fun k => by
      have h1 := pending_le (L := L.take k) (fun q hm => hq q (List.mem_of_mem_take hm))
      have h2 : (L.take k).length ≤ L.length := by rw [List.length_take]; omega
      omega
    have hw64 : ∀ q ∈ L, ∀ x ∈ q, x.st ≤ 9223372036854775807 := fun q hm x hx => (k1 q hm x hx).1.2
    have HW := Lib.hid (fun W (d : Below w.heap.size w W) => O.waits win v L W (H.out.on d) (by omega) hq2 k1 k3)
    have HWR := Lib.hid (fun W (d : Below w.heap.size w W) => refWaits_any win v L W (H.out.on d) (by omega) hq3)
    have HP := Lib.hid (fun W (d : Below w.heap.size w W) => O.pending v L W (H.out.on d) (by omega) hq2)
    have HPR := Lib.hid (fun W (d : Below w.heap.size w W) => refPending_any v L W (H.out.on d) (by omega) hpk)
    have HB := Lib.hid (fun W (d : Below w.heap.size w W) => refBegins_any v L W (H.out.on d) (by omega))
    have HS := Lib.hid (fun (hb : begins L = true) W (d : Below w.heap.size w W) => O.stable last v L W (H.out.on d) (by omega) hq2 k1 hb k2)
    have HSR := Lib.hid (fun (hb : begins L = true) W (d : Below w.heap.size w W) => refStable_any last v L W (H.out.on d) (by omega) hb hw64)
    obtain ⟨a, c, rfl, -, -⟩ := h.open
    clear h k1 k2 k3 hq hq2 hq3 hp hpk hw64 O H
    generalize waits win L = T at *
    generalize pending L = N at *
    generalize stable last L = S at *
    generalize begins L = B at *
    have qT : (T == T) = true := by simp
    have qN : ((N : Int) == (N : Int)) = true := by simp
    have qS : (S == S) = true := by simp
    cases B
    · clear HS HSR
      go_enter Try.func4, Try.ntmps4
      go_wp2_with fail
      refine (HAl.out _).mono ?_
      rintro e w1 ⟨rfl, n1⟩
      go_wp2_with fail
      refine (HG.out _ n1).mono ?_
      rintro e w2 ⟨rfl, rfl⟩
      go_wp2_with fail
      refine (HW.out _ n1).mono ?_
      rintro e w3 ⟨rfl, n3⟩
      have n3 := n1.trans (n3.mono n1.size)
      go_wp2_with fail
      refine (HWR.out _ n3).mono ?_
      rintro e w4 ⟨rfl, rfl⟩
      go_wp2_with fail
      refine (HP.out _ n3).mono ?_
      rintro e w5 ⟨rfl, n5⟩
      have n5 := n3.trans (n5.mono n3.size)
      go_wp2_with fail
      refine (HPR.out _ n5).mono ?_
      rintro e w6 ⟨rfl, rfl⟩
      go_wp2_with fail
      refine (HB.out _ n5).mono ?_
      rintro e w7 ⟨rfl, rfl⟩
      go_wp2_with fail
      go_ret
      exact ⟨rfl, n5⟩
    · skip
      go_enter Try.func4, Try.ntmps4
      go_wp2_with fail
      refine (HAl.out _).mono ?_
      rintro e w1 ⟨rfl, n1⟩
      go_wp2_with fail
      refine (HG.out _ n1).mono ?_
      rintro e w2 ⟨rfl, rfl⟩
      go_wp2_with fail
      refine (HW.out _ n1).mono ?_
      rintro e w3 ⟨rfl, n3⟩
      have n3 := n1.trans (n3.mono n1.size)
      go_wp2_with fail
      refine (HWR.out _ n3).mono ?_
      rintro e w4 ⟨rfl, rfl⟩
      go_wp2_with fail
      refine (HP.out _ n3).mono ?_
      rintro e w5 ⟨rfl, n5⟩
      have n5 := n3.trans (n5.mono n3.size)
      go_wp2_with fail
      refine (HPR.out _ n5).mono ?_
      rintro e w6 ⟨rfl, rfl⟩
      go_wp2_with fail
      refine (HB.out _ n5).mono ?_
      rintro e w7 ⟨rfl, rfl⟩
      go_wp2_with fail
      refine (HS.out trivial _ n5).mono ?_
      rintro e w8 ⟨rfl, n8⟩
      have n8 := n5.trans (n8.mono n5.size)
      go_wp2_with fail
      refine (HSR.out trivial _ n8).mono ?_
      rintro e w9 ⟨rfl, rfl⟩
      go_wp2_with fail
      go_ret
      exact ⟨rfl, n8⟩
end Go.Proofs.Ytmgfgfkkhcibcaa.Se
