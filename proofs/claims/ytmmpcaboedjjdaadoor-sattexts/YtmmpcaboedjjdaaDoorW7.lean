/- Walks: the document's Number and Text. -/
import Derived.Test.YtmmpcaboedjjdaaDoorM4
import Derived.Test.YtmmpcaboedjjdaaDoorW4
namespace Go.Proofs.YtmmpcaboedjjdaaDoor
open Go Go.RowKit

/-- The last digit's byte. -/
def dgB (v : Nat) : UInt8 := UInt8.ofNat (48 + v % 10)
theorem dgB_toNat (v : Nat) : (dgB v).toNat = 48 + v % 10 := by unfold dgB; exact Sat.dig_toNat _ (by omega)

theorem conv1 (wr : World) (v : Nat) (x : Int) (hx : x = ((48 + v % 10 : Nat) : Int)) : Sem.run Tryd.prog (convert 50 9 (Value.slice (some { block := wr.heap.size, off := 0 }) 1 1)) (wr.alloc (Obj.cells #[Value.int IntKind.u8 x] 5)) = .ok (.string ⟨#[dgB v]⟩) (wr.alloc (Obj.cells #[Value.int IntKind.u8 x] 5)) := by
  subst hx
  exact run_convert_bytes_back (P := Tryd.prog) (wr.alloc (Obj.cells #[Value.int IntKind.u8 ((48 + v % 10 : Nat) : Int)] 5)) 50 9 5 ⟨wr.heap.size, 0, none⟩ 1 [dgB v] Tryd.underlying50 Tryd.underlying5 Tryd.underlying9 (fun j hj => by
    have hj0 : j = 0 := by simp at hj; exact hj
    subst hj0
    simp only [List.getElem_cons_zero, dgB_toNat]
    simp [Addr.add])

theorem tm (v : Nat) : (-(v : Int)).tmod 10 = -((v % 10 : Nat) : Int) := by
  rw [Int.neg_tmod, Int.tmod_eq_emod_of_nonneg (by omega)]; omega
theorem td (v : Nat) : (-(v : Int)).tdiv 10 = -((v / 10 : Nat) : Int) := by
  rw [Int.neg_tdiv, Int.tdiv_eq_ediv_of_nonneg (by omega)]; omega

theorem one_data (c : UInt8) (S : ByteArray) : ((⟨#[c]⟩ : ByteArray) ++ S).data.toList = c :: S.data.toList := by
  rw [ByteArray.data_append]; simp
theorem step_end {v : Nat} {S : ByteArray} {D : List UInt8} (h : Lib.decDigits v ++ S.data.toList = D) (hz : v / 10 = 0) : ((⟨#[dgB v]⟩ : ByteArray) ++ S).data.toList = D := by
  rw [one_data, ← h, Sat.dec_lt (by omega)]
  unfold dgB
  rw [Nat.mod_eq_of_lt (by omega)]
  rfl
theorem step_on {v : Nat} {S : ByteArray} {D : List UInt8} (h : Lib.decDigits v ++ S.data.toList = D) (hz : v / 10 ≠ 0) : Lib.decDigits (v / 10) ++ ((⟨#[dgB v]⟩ : ByteArray) ++ S).data.toList = D := by
  rw [one_data, ← h, Sat.dec_ge (u := v) (by omega)]
  unfold dgB
  simp
theorem decLen (n : Int) (h0 : -9223372036854775808 ≤ n) (h1 : n ≤ 9223372036854775807) : (Lib.decDigits n.natAbs).length ≤ 21 := by
  have h := Lib.itoa_length_le n h0 h1
  unfold Lib.itoa at h
  split at h
  · simp at h; omega
  · rw [show n.natAbs = n.toNat from by omega]; exact h
theorem baEq {a : ByteArray} {l : List UInt8} (h : a.data.toList = l) : a = ⟨l.toArray⟩ := by
  apply ByteArray.ext
  rw [← h]

set_option maxHeartbeats 400000 in
theorem refNumber_any (n : Int) (w : World) (h0 : -9223372036854775808 ≤ n) (h1 : n ≤ 9223372036854775807) :
    Calls Tryd.prog 21 #[.int .i64 n] w fun e w' => e = .returned (.string ⟨(Lib.itoa n).toArray⟩) ∧ Below w.heap.size w w' := by
  have hDL := decLen n h0 h1
  have HI : Hid (Lib.itoa n = if n < 0 then 45 :: Lib.decDigits n.natAbs else Lib.decDigits n.natAbs) := by
    show _ = _
    unfold Lib.itoa
    split
    · rfl
    · rw [show n.natAbs = n.toNat from by omega]
  generalize hD : Lib.decDigits n.natAbs = D at *
  have HDn := Lib.hid hD
  clear hD
  have key : ∀ (v : Nat) (q : Int) (S : ByteArray), q = -(v : Int) → Lib.decDigits v ++ S.data.toList = D → (q.tdiv 10 == 0) = true → ((⟨#[dgB v]⟩ : ByteArray) ++ S).data.toList = D := by
    intro v q S hq hd hz
    rw [hq, td] at hz
    exact step_end hd (by simp at hz; omega)
  have keyOn : ∀ (v : Nat) (q : Int) (S : ByteArray), q = -(v : Int) → Lib.decDigits v ++ S.data.toList = D → (q.tdiv 10 == 0) = false → Lib.decDigits (v / 10) ++ ((⟨#[dgB v]⟩ : ByteArray) ++ S).data.toList = D ∧ q.tdiv 10 = -((v / 10 : Nat) : Int) ∧ ((⟨#[dgB v]⟩ : ByteArray) ++ S).size ≤ 21 ∧ (q.tdiv 10).natAbs < q.natAbs := by
    intro v q S hq hd hz
    rw [hq, td] at hz ⊢
    have hne : v / 10 ≠ 0 := by simp at hz; omega
    have h1 := step_on hd hne
    refine ⟨h1, rfl, ?_, by omega⟩
    have := congrArg List.length h1
    rw [List.length_append, ← size_list] at this
    omega
  have HK := Lib.hid key
  have HKO := Lib.hid keyOn
  clear key keyOn
  have H0 : Hid (∀ v : Nat, (v : Int) = n.natAbs → Lib.decDigits v ++ (⟨#[]⟩ : ByteArray).data.toList = D) := by
    intro v hv
    rw [← HDn.out]
    have : v = n.natAbs := by omega
    rw [this]; simp
  rcases Int.lt_trichotomy n 0 with hn | hn | hn
  · go_enter Tryd.func21, Tryd.ntmps21
    go_wp2_with fail
    go_loopw [3, 4] (fun m s wr => ∃ (v : Nat) (q : Int) (S : ByteArray), m = .int .i64 q ∧ s = .string S ∧ q ≤ 0 ∧ -9223372036854775808 ≤ q ∧ S.size ≤ 21 ∧ Hid (q = -(v : Int)) ∧ Hid (Lib.decDigits v ++ S.data.toList = D) ∧ Below w.heap.size w wr) (fun m _ _ => (intOf m).natAbs)
    case atStart => exact ⟨n.natAbs, n, ⟨#[]⟩, rfl, rfl, by omega, by omega, by decide, show _ = _ from by omega, H0.out _ rfl, Below.refl _ _⟩
    case round =>
      obtain ⟨v, q, S, rfl, rfl, hq0, hq1, hS, HQ, HD, hb⟩ := hrel
      have hr0 : -9 ≤ q.tmod 10 := by rw [HQ.out, tm]; omega
      have hr1 : q.tmod 10 ≤ 0 := by rw [HQ.out, tm]; omega
      have ht0 : -922337203685477580 ≤ q.tdiv 10 := by rw [HQ.out, td]; have := HQ.out; omega
      have ht1 : q.tdiv 10 ≤ 0 := by rw [HQ.out, td]; omega
      have hcv := conv1 wr v (48 + -q.tmod 10) (by rw [HQ.out, tm]; omega)
      go_wp2_with fail
      case roundEnd =>
        obtain ⟨k1, k2, k3, k4⟩ := HKO.out v q S HQ.out HD.out (by assumption)
        exact ⟨⟨v / 10, _, _, rfl, rfl, ht1, by omega, k3, k2, k1, hb.alloc hb.size _⟩, k4⟩
      all_goals
        go_ret
        refine ⟨ret_str ?_, hb.alloc hb.size _⟩
        rw [HI.out, if_pos hn]
        exact baEq (by rw [one_data, HK.out v q S HQ.out HD.out (by assumption)])
  · have a1 : n ≤ 0 := by omega
    have a2 : 0 ≤ n := by omega
    clear hn
    go_enter Tryd.func21, Tryd.ntmps21
    go_wp2_with fail
    go_loopw [3, 4] (fun m s wr => ∃ (v : Nat) (q : Int) (S : ByteArray), m = .int .i64 q ∧ s = .string S ∧ q ≤ 0 ∧ -9223372036854775808 ≤ q ∧ S.size ≤ 21 ∧ Hid (q = -(v : Int)) ∧ Hid (Lib.decDigits v ++ S.data.toList = D) ∧ Below w.heap.size w wr) (fun m _ _ => (intOf m).natAbs)
    case atStart => exact ⟨n.natAbs, n, ⟨#[]⟩, rfl, rfl, by omega, by omega, by decide, show _ = _ from by omega, H0.out _ rfl, Below.refl _ _⟩
    case round =>
      obtain ⟨v, q, S, rfl, rfl, hq0, hq1, hS, HQ, HD, hb⟩ := hrel
      have hr0 : -9 ≤ q.tmod 10 := by rw [HQ.out, tm]; omega
      have hr1 : q.tmod 10 ≤ 0 := by rw [HQ.out, tm]; omega
      have ht0 : -922337203685477580 ≤ q.tdiv 10 := by rw [HQ.out, td]; have := HQ.out; omega
      have ht1 : q.tdiv 10 ≤ 0 := by rw [HQ.out, td]; omega
      have hcv := conv1 wr v (48 + -q.tmod 10) (by rw [HQ.out, tm]; omega)
      go_wp2_with fail
      case roundEnd =>
        obtain ⟨k1, k2, k3, k4⟩ := HKO.out v q S HQ.out HD.out (by assumption)
        exact ⟨⟨v / 10, _, _, rfl, rfl, ht1, by omega, k3, k2, k1, hb.alloc hb.size _⟩, k4⟩
      all_goals
        go_ret
        refine ⟨ret_str ?_, hb.alloc hb.size _⟩
        rw [HI.out, if_neg (by omega)]
        exact baEq (HK.out v q S HQ.out HD.out (by assumption))
  · go_enter Tryd.func21, Tryd.ntmps21
    go_wp2_with fail
    go_loopw [3, 4] (fun m s wr => ∃ (v : Nat) (q : Int) (S : ByteArray), m = .int .i64 q ∧ s = .string S ∧ q ≤ 0 ∧ -9223372036854775808 ≤ q ∧ S.size ≤ 21 ∧ Hid (q = -(v : Int)) ∧ Hid (Lib.decDigits v ++ S.data.toList = D) ∧ Below w.heap.size w wr) (fun m _ _ => (intOf m).natAbs)
    case atStart => exact ⟨n.natAbs, -n, ⟨#[]⟩, rfl, rfl, by omega, by omega, by decide, show _ = _ from by omega, H0.out _ rfl, Below.refl _ _⟩
    case round =>
      obtain ⟨v, q, S, rfl, rfl, hq0, hq1, hS, HQ, HD, hb⟩ := hrel
      have hr0 : -9 ≤ q.tmod 10 := by rw [HQ.out, tm]; omega
      have hr1 : q.tmod 10 ≤ 0 := by rw [HQ.out, tm]; omega
      have ht0 : -922337203685477580 ≤ q.tdiv 10 := by rw [HQ.out, td]; have := HQ.out; omega
      have ht1 : q.tdiv 10 ≤ 0 := by rw [HQ.out, td]; omega
      have hcv := conv1 wr v (48 + -q.tmod 10) (by rw [HQ.out, tm]; omega)
      go_wp2_with fail
      case roundEnd =>
        obtain ⟨k1, k2, k3, k4⟩ := HKO.out v q S HQ.out HD.out (by assumption)
        exact ⟨⟨v / 10, _, _, rfl, rfl, ht1, by omega, k3, k2, k1, hb.alloc hb.size _⟩, k4⟩
      all_goals
        go_ret
        refine ⟨ret_str ?_, hb.alloc hb.size _⟩
        rw [HI.out, if_neg (by omega)]
        exact baEq (HK.out v q S HQ.out HD.out (by assumption))

set_option maxHeartbeats 400000 in
theorem refText_any (n : Int) (o : Bool) (w : World) (h0 : -9223372036854775808 ≤ n) (h1 : n ≤ 9223372036854775807) :
    Calls Tryd.prog 19 #[.agg #[.int .i64 n, .bool o]] w fun e w' => e = .returned (.string ⟨(textL n o).toArray⟩) ∧ Below w.heap.size w w' := by
  have hl := Lib.itoa_length_le n h0 h1
  cases o
  · have hf : textL n false = Lib.itoa n := by simp [textL]
    rw [hf]
    clear hf
    go_enter Tryd.func19, Tryd.ntmps19
    go_wp2_with fail
    refine (refNumber_any n _ h0 h1).mono ?_
    rintro e w1 ⟨rfl, hb⟩
    go_wp2
    go_ret
    exact ⟨rfl, belowAlloc hb⟩
  · have hf : textL n true = Lib.itoa n ++ [33] := by simp [textL]
    rw [hf]
    clear hf
    go_enter Tryd.func19, Tryd.ntmps19
    go_wp2_with fail
    refine (refNumber_any n _ h0 h1).mono ?_
    rintro e w1 ⟨rfl, hb⟩
    go_wp2
    go_ret
    exact ⟨ret_str (ba_append _ _), belowAlloc hb⟩
end Go.Proofs.YtmmpcaboedjjdaaDoor
