/- Walks: the law KeyParses. -/
import Derived.Test.YtfjbbaejeckonaaDoorK6
namespace Go.Proofs.YtfjbbaejeckonaaDoor
open Go Go.RowKit Tg Ky

theorem KRow.shut {w : World} {a : Option Addr} {c : Nat} {k : Key} (h : TRow w (.slice a k.2.length c) k.2) : KRow w (.agg #[.string k.1, .slice a k.2.length c]) k := ⟨_, rfl, h⟩

set_option maxHeartbeats 1000000 in
theorem parses_walk (s : ByteArray) (w : World) (hE : Env w) (hs : s.size ≤ 281474976710656) :
    Calls Tryd.prog 4 #[.string s] w fun e w' => e = .returned (.bool true) ∧ Below w.heap.size w w' := by
  by_cases hl : 500 < s.size
  · go_enter Tryd.func4, Tryd.ntmps4
    go_wp2_with (go_at_call 8; refine (alive_any w hE).mono ?_; rintro e w1 ⟨rfl, d1⟩)
    go_ret
    exact ⟨rfl, d1⟩
  · have hple := kparse_le s.data.toList
    have hsl : s.size ≤ 900 := by omega
    go_enter Tryd.func4, Tryd.ntmps4
    go_wp2_with fail
    refine (alive_any w hE).mono ?_
    rintro e w1 ⟨rfl, d1⟩
    have hE1 := hE.go d1
    go_wp2_with fail
    refine (kparse_any s w1 hE1 hsl).mono ?_
    rintro e w2 ⟨⟨_, rfl, hk2⟩, n2⟩
    obtain ⟨ad2, cp2, rfl, r2⟩ := hk2.open
    have d2 := d1.trans (n2.mono d1.size)
    clear n2 d1 hE1 hk2
    generalize hC : kparse s.data.toList = C at *
    have HC := Lib.hid hC
    clear hC
    go_wp2_with fail
    refine (refKparse_any s _ hsl).mono ?_
    rw [HC.out]
    rintro e w3 ⟨⟨_, rfl, hk3⟩, n3⟩
    obtain ⟨ad3, cp3, rfl, r3⟩ := hk3.open
    have c0 := newC (i := 0) n3
    have c1 := newC (i := 1) n3
    simp at c0 c1
    have z2 : w2.heap.size < w3.heap.size := by have := n3.size; simp at this; omega
    have d3 := d2.trans ((belowA n3).mono d2.size)
    have r2 := r2.on (belowA n3)
    clear n3 d2 hk3 HC
    have k0 := fun o => keepC (aBelow w3 o) c0 z2
    have k1 := fun o => keepC (aBelow w3 o) c1 z2
    go_wp2_with fail
    refine (refKsame_any _ _ C.1 C.1 _ (KRow.shut (r2.on (aBelow _ _))) (KRow.shut (r3.on (aBelow _ _))) (by omega)).mono ?_
    rw [eqK_self]
    rintro e w4 ⟨rfl, n4⟩
    have d4 := d3.trans ((belowA n4).mono d3.size)
    go_wp2_with fail
    go_ret
    exact ⟨rfl, d4⟩
end Go.Proofs.YtfjbbaejeckonaaDoor
