/- Walks: the law QueryParses. -/
import Derived.Test.YtfohknpjlkjbbaaGreatDoorQG
namespace Go.Proofs.YtfohknpjlkjbbaaGreatDoor
open Go Go.RowKit Tg Pk Ky Qy

theorem qparse_small (s : List UInt8) : (qparse s).1.2.2.1.length ≤ 4 ∧ (qparse s).1.2.2.2.length ≤ 4 := by
  by_cases h : (qparse s).2 = 0
  · obtain ⟨_, h2, _, _, h5, _, _⟩ := qright_small (qparse_ok h)
    exact ⟨h2, h5⟩
  · rw [qparse_err h]
    exact ⟨Nat.zero_le _, Nat.zero_le _⟩

set_option maxHeartbeats 1000000 in
theorem parses_walk (s : ByteArray) (w : World) (hE : Env w) :
    Calls Tryz.prog 4 #[.string s] w fun e w' => e = .returned (.bool true) ∧ Below w.heap.size w w' := by
  by_cases hl : 500 < s.size
  · go_enter Tryz.func4, Tryz.ntmps4
    go_wp2_with (go_at_call 7; refine (alive_any w hE).mono ?_; rintro e w1 ⟨rfl, d1⟩)
    go_ret
    exact ⟨rfl, d1⟩
  · obtain ⟨z1, z2⟩ := qparse_small s.data.toList
    have hsl : s.size ≤ 900 := by omega
    have H1 := Lib.hid (fun W (h : Env W) => qparse_any s W h hsl)
    have H2 := Lib.hid (fun W => refQparse_any s W hsl)
    generalize qparse s.data.toList = C at *
    obtain ⟨q, er⟩ := C
    dsimp only at *
    have qe : (er == er) = true := by simp
    go_enter Tryz.func4, Tryz.ntmps4
    go_wp2_with fail
    refine (alive_any w hE).mono ?_
    rintro e w1 ⟨rfl, d1⟩
    have hE1 := hE.go d1
    go_wp2_with fail
    refine (H1.out _ hE1).mono ?_
    rintro e w2 ⟨⟨_, rfl, r2⟩, n2⟩
    have d2 := d1.trans (n2.mono d1.size)
    obtain ⟨a1, c1, b1, e1, rfl, m1, l1⟩ := r2.open
    clear n2 d1 hE1 r2
    go_wp2_with fail
    refine (H2.out _).mono ?_
    rintro e w3 ⟨⟨_, rfl, r3⟩, n3⟩
    obtain ⟨a2, c2, b2, e2, rfl, m2, l2⟩ := r3.open
    have c0 := newC (i := 0) n3
    have c1' := newC (i := 1) n3
    have c2' := newC (i := 2) n3
    have c3 := newC (i := 3) n3
    simp at c0 c1' c2' c3
    have zz : w2.heap.size < w3.heap.size := by have := n3.size; simp at this; omega
    have m1 := m1.on (belowA n3)
    have l1 := l1.on (belowA n3)
    have d3 := d2.trans ((belowA n3).mono d2.size)
    clear n3 d2 r3
    have k0 := fun o => keepC (aBelow w3 o) c0 zz
    have k1 := fun o => keepC (aBelow w3 o) c1' zz
    have k2 := fun o => keepC (aBelow w3 o) c2' zz
    have k3 := fun o => keepC (aBelow w3 o) c3 zz
    go_wp2_with fail
    clear k0 k1 k2 k3 c0 c1' c2' c3
    refine (refQsame_any _ _ q q _ (QRow.shut (m1.on (aBelow _ _)) (l1.on (aBelow _ _))) (QRow.shut (m2.on (aBelow _ _)) (l2.on (aBelow _ _))) (by omega) (by omega)).mono ?_
    rw [eqQ_self]
    rintro e w4 ⟨rfl, n4⟩
    have d4 := d3.trans ((belowA n4).mono d3.size)
    go_wp2_with fail
    go_ret
    exact ⟨rfl, d4⟩
end Go.Proofs.YtfohknpjlkjbbaaGreatDoor
