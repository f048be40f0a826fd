/- Walks: the law WordApart. -/
import Derived.Test.YtiaeopjfggiecaaDoorL2
namespace Go.Proofs.YtiaeopjfggiecaaDoor
open Go Go.RowKit

theorem apart_parts (c : UInt8) (l : List ByteArray) (hne : l ≠ []) (hv : Word.value [c] = false) (hall : ∀ x ∈ l, Word.value x.data.toList = true) : partsB c (joinB ⟨#[c]⟩ l) = l := by
  unfold partsB joinB
  rw [ba_list]
  have h := Word.parts_join c (l.map (·.data.toList)) (by simpa using hne) (fun x hx => by
    rw [List.mem_map] at hx
    obtain ⟨y, hy, rfl⟩ := hx
    exact Word.value_mem _ c (hall y hy) hv)
  show (Word.parts c (Lib.join (l.map (·.data.toList)) [c])).map ba = l
  rw [h, ba_map]
theorem apart_fields (l : List ByteArray) (hne : l ≠ []) (hv : Word.value [32] = false) (hall : ∀ x ∈ l, Word.value x.data.toList = true) : fieldsB (joinB ⟨#[32]⟩ l) = l := by
  unfold fieldsB joinB
  rw [ba_list]
  have h := Word.fields_join (l.map (·.data.toList)) (by simpa using hne) (fun x hx => by
    rw [List.mem_map] at hx
    obtain ⟨y, hy, rfl⟩ := hx
    exact Word.value_mem _ 32 (hall y hy) hv) (fun x hx => by
    rw [List.mem_map] at hx
    obtain ⟨y, hy, rfl⟩ := hx
    exact Word.value_ne _ (hall y hy))
  show (Word.fields (Lib.join (l.map (·.data.toList)) [32])).map ba = l
  rw [h, ba_map]
theorem join_tiny (sep : ByteArray) (l : List ByteArray) (hs : sep.size ≤ 1000) (hl : l.length ≤ 100) (ht : total l ≤ 5000) : (joinB sep l).size ≤ 110000 := by
  rw [joinB_size]
  cases l with
  | nil => simp [Lib.join_nil]
  | cons x r =>
    rw [List.map_cons, join_length, lens_total, List.length_map, ← size_list, ← size_list]
    have h1 : total (x :: r) = x.size + total r := by simp [total]
    have h2 : r.length ≤ 100 := by simp at hl; omega
    have h3 : sep.size * r.length ≤ 1000 * 100 := Nat.mul_le_mul hs h2
    omega

set_option maxHeartbeats 1000000 in
theorem apart_zero (a : Option Addr) (cp : Nat) (c : UInt8) (w : World) (hE : Env w) :
    Calls Tryd.prog 6 #[.slice a 0 cp, .int .u8 (c.toNat : Int)] w fun e w' => e = .returned (.bool true) ∧ Below w.heap.size w w' := by
  go_enter Tryd.func6, Tryd.ntmps6
  go_wp2_with (go_at_call 7; refine (alive_any w hE).mono ?_; rintro e w1 ⟨rfl, d1⟩)
  refine (great_zero a cp _).mono ?_
  rintro e w2 ⟨rfl, rfl⟩
  go_wp2_with fail
  go_ret
  exact ⟨rfl, d1⟩

set_option maxHeartbeats 1000000 in
theorem apart_great (v : Value) (l : List ByteArray) (c : UInt8) (w : World) (hE : Env w) (hv : Row w v l) (hl : ∀ x ∈ l, x.size ≤ 281474976710656) (hg : greatB l = true) :
    Calls Tryd.prog 6 #[v, .int .u8 (c.toNat : Int)] w fun e w' => e = .returned (.bool true) ∧ Below w.heap.size w w' := by
  go_enter Tryd.func6, Tryd.ntmps6
  go_wp2_with (go_at_call 7; refine (alive_any w hE).mono ?_; rintro e w1 ⟨rfl, d1⟩)
  refine (great_any v l _ (hv.on d1) hl).mono ?_
  rintro e w2 ⟨rfl, rfl⟩
  rw [hg]
  go_wp2_with fail
  go_ret
  exact ⟨rfl, d1⟩

set_option maxHeartbeats 2000000 in
theorem apart_cells (b o cp : Nat) (l : List ByteArray) (c : UInt8) (w : World) (hE : Env w) (hL : Lies w b o l) (hb : b < w.heap.size) (hcp : l.length ≤ cp) (hne : 0 < l.length) (hl : ∀ x ∈ l, x.size ≤ 281474976710656) (hg : greatB l = false) :
    Calls Tryd.prog 6 #[.slice (some ⟨b, o, none⟩) l.length cp, .int .u8 (c.toNat : Int)] w fun e w' => e = .returned (.bool true) ∧ Below w.heap.size w w' := by
  obtain ⟨g1, g2⟩ := great_not hg
  have hJs := join_tiny ⟨#[c]⟩ l (by show (1 : Nat) ≤ 1000; decide) g1 g2
  have hrow : ∀ W, Below w.heap.size w W → Row W (.slice (some ⟨b, o, none⟩) l.length cp) l := fun W hW => ⟨_, cp, rfl, hcp, fun _ => ⟨b, o, rfl, Nat.lt_of_lt_of_le hb hW.size, hL.on hb hW⟩⟩
  have HR := Lib.hid hrow
  have HL := Lib.hid (fun W hW => hL.on (w1 := W) hb hW)
  clear hrow hL
  have hvc := fun W => refValue_any ⟨#[c]⟩ W (by show (1 : Nat) ≤ _; decide)
  have hone : (⟨#[c]⟩ : ByteArray).data.toList = [c] := rfl
  rw [hone] at hvc
  cases hval : Word.value [c] <;> rw [hval] at hvc
  · have HVC := Lib.hid hvc
    clear hvc hone
    go_enter Tryd.func6, Tryd.ntmps6
    go_wp2_with (go_at_call 7; refine (alive_any w hE).mono ?_; rintro e w1 ⟨rfl, d1⟩)
    refine (great_any _ l _ (HR.out _ d1) hl).mono ?_
    rintro e w1 ⟨rfl, rfl⟩
    rw [hg]
    have hcv := conv1 w1 c
    go_wp2_with (go_at_call 11; refine (HVC.out _).mono ?_; rintro e w' ⟨rfl, rfl⟩)
    have d2 := d1.alloc d1.size (Obj.cells #[Value.int IntKind.u8 (c.toNat : Int)] 5)
    have hE2 := (hE.go d1).alloc (Obj.cells #[Value.int IntKind.u8 (c.toNat : Int)] 5)
    clear hcv d1 hE
    generalize w1.alloc (Obj.cells #[Value.int IntKind.u8 (c.toNat : Int)] 5) = W at *
    have HLW := Lib.hid (HL.out W d2)
    have HZ := Lib.hid hl
    clear hl
    go_loop [5] (fun i => ∃ k : Nat, k ≤ l.length ∧ i = .int .i64 k ∧ Hid (∀ x ∈ l.take k, Word.value x.data.toList = true)) (fun i => l.length - (intOf i).toNat)
    case atStart => exact ⟨0, Nat.zero_le _, rfl, fun x hx => by simp at hx⟩
    case round =>
      obtain ⟨k, hk, rfl, HA⟩ := hrel
      by_cases hlt : k < l.length
      · have e1 := (HLW.out).at k hlt
        have i1 : (k : Int) < (l.length : Int) := by omega
        have i2 : (0 : Int) ≤ (k : Int) := by omega
        have hz := HZ.out _ (List.getElem_mem hlt)
        have hc := refValue_any l[k] W (by omega)
        have HN : Hid (Word.value (l[k]).data.toList = true → ∀ x ∈ l.take (k + 1), Word.value x.data.toList = true) := by
          intro h x hx
          rw [List.take_succ_eq_append_getElem hlt, List.mem_append] at hx
          rcases hx with hx | hx
          · exact HA.out x hx
          · have : x = l[k] := by simpa using hx
            rw [this]; exact h
        cases hx : Word.value (l[k]).data.toList <;> rw [hx] at hc
        · have HC := Lib.hid hc
          clear hc hx HN
          generalize l[k] = x at *
          go_wp2_with (go_at_call 11; refine (HC.out).mono ?_; rintro e w' ⟨rfl, rfl⟩)
          go_ret
          exact ⟨rfl, d2⟩
        · have HC := Lib.hid hc
          have HN2 := Lib.hid (HN.out hx)
          clear hc hx HN
          generalize l[k] = x at *
          go_wp2_with (go_at_call 11; refine (HC.out).mono ?_; rintro e w' ⟨rfl, rfl⟩)
          exact ⟨⟨k + 1, by omega, by go_num, HN2⟩, by simp [intOf]; omega⟩
      · have hall : ∀ x ∈ l, Word.value x.data.toList = true := by
          have h1 := HA.out
          rw [List.take_of_length_le (by omega)] at h1
          exact h1
        have hnn : l ≠ [] := fun e => by rw [e] at hne; cases hne
        have HP := Lib.hid (apart_parts c l hnn hval hall)
        have hcv := conv1 W c
        clear HA HLW HZ
        have d3 := d2.alloc d2.size (Obj.cells #[Value.int IntKind.u8 (c.toNat : Int)] 5)
        have hE3 := hE2.alloc (Obj.cells #[Value.int IntKind.u8 (c.toNat : Int)] 5)
        by_cases hc : c = 32
        · have HF : Hid (fieldsB (joinB ⟨#[c]⟩ l) = l) := by
            have h1 := hval
            rw [hc] at h1
            show _ = _
            rw [hc]
            exact apart_fields l hnn h1 hall
          have hq : ((c.toNat : Int) != 32) = false := by rw [hc]; rfl
          clear hall hval hc hnn
          go_wp2_with (go_at_call 18; refine (join_row _ l ⟨#[c]⟩ _ (HR.out _ d3) (by omega) (by omega)).mono ?_; rintro e w3 ⟨rfl, n3⟩)
          generalize joinB ⟨#[c]⟩ l = J at *
          have hE4 := hE3.go n3
          have d4 := d3.trans (n3.mono d3.size)
          clear n3 d3 hE3 hcv d2 hE2
          refine (split_row J c _ hE4 (by omega)).mono ?_
          rw [HP.out]
          rintro e w4 ⟨⟨v4, rfl, hr4⟩, n4⟩
          have hE5 := hE4.go n4
          have d5 := d4.trans (n4.mono d4.size)
          clear n4 d4 hE4
          go_wp2_with fail
          refine (same_any v4 _ l _ hr4 (HR.out _ d5) (by omega)).mono ?_
          rintro e w5 ⟨rfl, n5⟩
          have hE6 := hE5.go n5
          have d6 := d5.trans (n5.mono d5.size)
          clear n5 d5 hE5 hr4
          go_wp2_with fail
          refine (fields_row J _ hE6 (by omega)).mono ?_
          rw [HF.out]
          rintro e w7 ⟨⟨v7, rfl, hr7⟩, n7⟩
          have d7 := d6.trans (n7.mono d6.size)
          clear n7 d6 hE6
          go_wp2_with fail
          refine (same_any v7 _ l _ hr7 (HR.out _ d7) (by omega)).mono ?_
          rintro e w8 ⟨rfl, n8⟩
          have d8 := d7.trans (n8.mono d7.size)
          clear n8 d7 hr7
          go_wp2_with fail
          go_ret
          exact ⟨rfl, d8⟩
        · have hq : ((c.toNat : Int) != 32) = true := by
            have : ((c.toNat : Int) == 32) = false := byte_ne (b := 32) hc
            rw [bne, this]; rfl
          clear hall hval hc hnn
          go_wp2_with (go_at_call 18; refine (join_row _ l ⟨#[c]⟩ _ (HR.out _ d3) (by omega) (by omega)).mono ?_; rintro e w3 ⟨rfl, n3⟩)
          generalize joinB ⟨#[c]⟩ l = J at *
          have hE4 := hE3.go n3
          have d4 := d3.trans (n3.mono d3.size)
          clear n3 d3 hE3 hcv d2 hE2
          refine (split_row J c _ hE4 (by omega)).mono ?_
          rw [HP.out]
          rintro e w4 ⟨⟨v4, rfl, hr4⟩, n4⟩
          have d5 := d4.trans (n4.mono d4.size)
          clear n4 d4 hE4
          go_wp2_with fail
          refine (same_any v4 _ l _ hr4 (HR.out _ d5) (by omega)).mono ?_
          rintro e w5 ⟨rfl, n5⟩
          have d6 := d5.trans (n5.mono d5.size)
          clear n5 d5 hr4
          go_wp2_with fail
          go_ret
          exact ⟨rfl, d6⟩
  · have HVC := Lib.hid hvc
    clear hvc hone
    go_enter Tryd.func6, Tryd.ntmps6
    go_wp2_with (go_at_call 7; refine (alive_any w hE).mono ?_; rintro e w1 ⟨rfl, d1⟩)
    refine (great_any _ l _ (HR.out _ d1) hl).mono ?_
    rintro e w1 ⟨rfl, rfl⟩
    rw [hg]
    have hcv := conv1 w1 c
    go_wp2_with (go_at_call 11; refine (HVC.out _).mono ?_; rintro e w' ⟨rfl, rfl⟩)
    go_ret
    exact ⟨rfl, d1.alloc d1.size _⟩
end Go.Proofs.YtiaeopjfggiecaaDoor
