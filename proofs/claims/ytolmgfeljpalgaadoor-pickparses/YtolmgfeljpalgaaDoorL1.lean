/- Walks: the law PickParses. -/
import Derived.Test.YtolmgfeljpalgaaDoorPB
namespace Go.Proofs.YtolmgfeljpalgaaDoor
open Go Go.RowKit Tg Pk

set_option maxHeartbeats 1000000 in
theorem parses_walk (s : ByteArray) (w : World) (hE : Env w) (hs : s.size ≤ 281474976710656) :
    Calls Tryd.prog 5 #[.string s] w fun e w' => e = .returned (.bool true) ∧ Below w.heap.size w w' := by
  by_cases hl : 500 < s.size
  · go_enter Tryd.func5, Tryd.ntmps5
    go_wp2_with (go_at_call 8; refine (alive_any w hE).mono ?_; rintro e w1 ⟨rfl, d1⟩)
    go_ret
    exact ⟨rfl, d1⟩
  · have hple := pparse_le s.data.toList
    have hsl : s.size ≤ 900 := by omega
    go_enter Tryd.func5, Tryd.ntmps5
    go_wp2_with fail
    refine (alive_any w hE).mono ?_
    rintro e w1 ⟨rfl, d1⟩
    have hE1 := hE.go d1
    go_wp2_with fail
    refine (parseM_any s w1 hE1 hsl).mono ?_
    rintro e w2 ⟨⟨_, rfl, r2⟩, n2⟩
    have d2 := d1.trans (n2.mono d1.size)
    clear n2 d1 hE1
    generalize hC : pparse s.data.toList = C at *
    have HC := Lib.hid hC
    clear hC
    go_wp2_with fail
    refine (refParseM_any s _ hsl).mono ?_
    rw [HC.out]
    rintro e w3 ⟨⟨_, rfl, r3⟩, n3⟩
    have r2 := r2.on n3
    have d3 := d2.trans (n3.mono d2.size)
    clear n3 d2 HC
    have q : (C.2 == C.2) = true := by simp
    go_wp2_with fail
    refine (refSame_any _ _ C.1 C.1 _ r2 r3 (by omega)).mono ?_
    rw [decide_eq_true rfl]
    rintro e w4 ⟨rfl, n4⟩
    have d4 := d3.trans (n4.mono d3.size)
    go_wp2_with fail
    go_ret
    exact ⟨rfl, d4⟩
end Go.Proofs.YtolmgfeljpalgaaDoor
