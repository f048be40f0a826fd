/- Walks: the laws WordKinds and WordBack. -/
import Derived.Test.YtiaeopjfggiecaaDoorW7
import Derived.Deep.RegionWith
namespace Go.Proofs.YtiaeopjfggiecaaDoor
open Go Go.RowKit

set_option maxHeartbeats 1000000 in
theorem kinds_walk (s : ByteArray) (w : World) (hE : Env w) (hs : s.size ≤ 281474976710656) :
    Calls Tryd.prog 3 #[.string s] w fun e w' => e = .returned (.bool true) ∧ Below w.heap.size w w' := by
  by_cases hl : 1000 < s.size
  · go_enter Tryd.func3, Tryd.ntmps3
    go_wp2_with (go_at_call 7; refine (alive_any w hE).mono ?_; rintro e w1 ⟨rfl, d1⟩)
    go_ret
    exact ⟨rfl, d1⟩
  · have HN := Lib.hid (Word.name_value s.data.toList)
    have h1 := fun w => name_any s w (by omega)
    have h2 := fun w => refName_any s w (by omega)
    have h3 := fun w => value_any s w (by omega)
    have h4 := fun w => refValue_any s w (by omega)
    generalize Word.name s.data.toList = a at *
    generalize Word.value s.data.toList = b at *
    have H1 := Lib.hid h1
    have H2 := Lib.hid h2
    have H3 := Lib.hid h3
    have H4 := Lib.hid h4
    clear h1 h2 h3 h4
    cases a
    · go_enter Tryd.func3, Tryd.ntmps3
      go_wp2_with (first
        | (go_at_call 7; refine (alive_any w hE).mono ?_; rintro e w1 ⟨rfl, d1⟩)
        | (go_at_call 8; refine (H1.out _).mono ?_; rintro e w' ⟨rfl, rfl⟩)
        | (go_at_call 9; refine (H2.out _).mono ?_; rintro e w' ⟨rfl, rfl⟩)
        | (go_at_call 10; refine (H3.out _).mono ?_; rintro e w' ⟨rfl, rfl⟩)
        | (go_at_call 11; refine (H4.out _).mono ?_; rintro e w' ⟨rfl, rfl⟩))
      go_ret
      exact ⟨ret_bool (by simp), d1⟩
    · have hb : b = true := HN.out rfl
      subst hb
      go_enter Tryd.func3, Tryd.ntmps3
      go_wp2_with (first
        | (go_at_call 7; refine (alive_any w hE).mono ?_; rintro e w1 ⟨rfl, d1⟩)
        | (go_at_call 8; refine (H1.out _).mono ?_; rintro e w' ⟨rfl, rfl⟩)
        | (go_at_call 9; refine (H2.out _).mono ?_; rintro e w' ⟨rfl, rfl⟩)
        | (go_at_call 10; refine (H3.out _).mono ?_; rintro e w' ⟨rfl, rfl⟩)
        | (go_at_call 11; refine (H4.out _).mono ?_; rintro e w' ⟨rfl, rfl⟩))
      go_ret
      exact ⟨rfl, d1⟩

theorem joined_parts (s : ByteArray) (c : UInt8) : joinB ⟨#[c]⟩ (partsB c s) = s := by
  unfold joinB partsB
  rw [map_ba]
  show ba (Lib.join (Word.parts c s.data.toList) [c]) = s
  rw [Word.join_parts, ba_eq]
theorem parts_ne (c : UInt8) (s : ByteArray) : partsB c s ≠ [] := by
  intro e
  have := count_parts c s
  rw [e] at this
  simp at this
theorem convG (W : World) (b : Nat) (c : UInt8) (h : W.cell? ⟨b, 0, none⟩ = some (.int .u8 (c.toNat : Int))) : Sem.run Tryd.prog (convert 32 9 (Value.slice (some { block := b, off := 0 }) 1 1)) W = .ok (.string ⟨#[c]⟩) W := by
  exact run_convert_bytes_back (P := Tryd.prog) W 32 9 5 ⟨b, 0, none⟩ 1 [c] Tryd.underlying32 Tryd.underlying5 Tryd.underlying9 (fun j hj => by
    have hj0 : j = 0 := by simp at hj; exact hj
    subst hj0
    simp only [List.getElem_cons_zero]
    rw [addr_add]
    exact h)
theorem back1 (s : ByteArray) (c : UInt8) (w1 : World) : Lies (splitW c s (w1.alloc (Obj.cells #[Value.int IntKind.u8 (c.toNat : Int)] 5)).drew) (w1.heap.size + 1 + 1) 0 (partsB c s) ∧ w1.heap.size + 1 + 1 < (splitW c s (w1.alloc (Obj.cells #[Value.int IntKind.u8 (c.toNat : Int)] 5)).drew).heap.size ∧ Below w1.heap.size w1 (splitW c s (w1.alloc (Obj.cells #[Value.int IntKind.u8 (c.toNat : Int)] 5)).drew) := by
  have h := splitW_lies c s (w1.alloc (Obj.cells #[Value.int IntKind.u8 (c.toNat : Int)] 5)).drew
  have hz : (w1.alloc (Obj.cells #[Value.int IntKind.u8 (c.toNat : Int)] 5)).drew.heap.size = w1.heap.size + 1 := by simp
  have hb := splitW_below c s (w1.alloc (Obj.cells #[Value.int IntKind.u8 (c.toNat : Int)] 5)).drew
  rw [hz] at h hb
  refine ⟨h, by rw [splitW_size, hz]; omega, ?_⟩
  exact (((Below.refl _ _).alloc (Nat.le_refl _) _).drew).trans (hb.mono (by omega))
theorem back3 (s : ByteArray) (c : UInt8) (w1 : World) : Lies ((splitW c s w1.drew).alloc (Obj.cells #[Value.int IntKind.u8 (c.toNat : Int)] 5)) (w1.heap.size + 1) 0 (partsB c s) ∧ w1.heap.size + 1 < ((splitW c s w1.drew).alloc (Obj.cells #[Value.int IntKind.u8 (c.toNat : Int)] 5)).heap.size ∧ Below w1.heap.size w1 ((splitW c s w1.drew).alloc (Obj.cells #[Value.int IntKind.u8 (c.toNat : Int)] 5)) := by
  have h := splitW_lies c s w1.drew
  have hz : w1.drew.heap.size = w1.heap.size := rfl
  have hz2 := splitW_size c s w1.drew
  have hb := splitW_below c s w1.drew
  rw [hz] at h hb hz2
  refine ⟨h.alloc (by omega) _, by simp; omega, ?_⟩
  exact ((Below.refl _ _).drew.trans hb).alloc (by omega) _

set_option maxHeartbeats 1000000 in
theorem back_walk (s : ByteArray) (c : UInt8) (w : World) (hE : Env w) (hs : s.size ≤ 281474976710656) :
    Calls Tryd.prog 5 #[.string s, .int .u8 (c.toNat : Int)] w fun e w' => e = .returned (.bool true) ∧ Below w.heap.size w w' := by
  by_cases hl : 1000 < s.size
  · go_enter Tryd.func5, Tryd.ntmps5
    go_wp2_with (go_at_call 7; refine (alive_any w hE).mono ?_; rintro e w1 ⟨rfl, d1⟩)
    go_ret
    exact ⟨rfl, d1⟩
  · have hJ := joined_parts s c
    have hp := parts_le c s
    go_enter Tryd.func5, Tryd.ntmps5
    go_wp2_with (go_at_call 7; refine (alive_any w hE).mono ?_; rintro e w1 ⟨rfl, d1⟩)
    have hE1 := hE.go d1
    have hcv1 := convG (w1.alloc (Obj.cells #[Value.int IntKind.u8 (c.toNat : Int)] 5)).drew w1.heap.size c (by simp)
    have hcv2 := convG (splitW c s (w1.alloc (Obj.cells #[Value.int IntKind.u8 (c.toNat : Int)] 5)).drew) w1.heap.size c (by rw [(splitW_below c s _).cell (p := ⟨w1.heap.size, 0, none⟩) (by simp)]; simp)
    have hcv3 := convG ((splitW c s w1.drew).alloc (Obj.cells #[Value.int IntKind.u8 (c.toNat : Int)] 5)) (splitW c s w1.drew).heap.size c (by simp)
    obtain ⟨l1, m1, b1⟩ := back1 s c w1
    obtain ⟨l3, m3, b3⟩ := back3 s c w1
    have j1 := join_any _ 0 (partsB c s).length (partsB c s) ⟨#[c]⟩ _ l1 m1 (by omega) (Nat.le_refl _) (by rw [hJ]; omega)
    have j3 := join_any _ 0 (partsB c s).length (partsB c s) ⟨#[c]⟩ _ l3 m3 (by omega) (Nat.le_refl _) (by rw [hJ]; omega)
    rw [hJ] at j1 j3
    have J1 := Lib.hid j1
    have J3 := Lib.hid j3
    have D1 := Lib.hid (d1.trans (b1.mono d1.size))
    have D3 := Lib.hid (d1.trans (b3.mono d1.size))
    have HE1 := Lib.hid hE1
    clear j1 j3 l1 l3 b1 b3 d1 hJ hE hE1
    go_region_with (first
      | (go_at_call 14; refine (split_any s c _ ?_ (by omega)).mono ?_; first
          | exact HE1.out
          | exact HE1.out.alloc _
         rintro e w' ⟨rfl, rfl⟩)
      | (go_at_call_of 18 (Value.slice (some { block := w1.heap.size + 1 + 1, off := 0 }) (partsB c s).length (partsB c s).length); refine (J1.out).mono ?_; rintro e w2 ⟨rfl, n2⟩; have d2 := (D1.out).trans (n2.mono (D1.out).size); clear n2)
      | (go_at_call_of 18 (Value.slice (some { block := w1.heap.size + 1, off := 0 }) (partsB c s).length (partsB c s).length); refine (J3.out).mono ?_; rintro e w2 ⟨rfl, n2⟩; have d2 := (D3.out).trans (n2.mono (D3.out).size); clear n2))
    all_goals
      go_wp2
      go_ret
      exact ⟨rfl, d2⟩
end Go.Proofs.YtiaeopjfggiecaaDoor
