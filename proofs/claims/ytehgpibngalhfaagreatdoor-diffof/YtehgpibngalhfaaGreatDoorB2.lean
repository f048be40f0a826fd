/- Carried over from earlier layers: walks and lemmas. -/
import Derived.Test.YtehgpibngalhfaaGreatDoorB1
import Derived.Lib.Hide
namespace Go.Proofs.YtehgpibngalhfaaGreatDoor.St
open Go Go.RowKit
open Sat
theorem belowAlloc {W w2 : World} {o : Obj} (hb : Below (W.alloc o).heap.size (W.alloc o) w2) : Below W.heap.size W w2 := ((Below.refl _ _).alloc (Nat.le_refl _) _).trans (hb.mono (by simp))
end Go.Proofs.YtehgpibngalhfaaGreatDoor.St
namespace Go.Proofs.YtehgpibngalhfaaGreatDoor.St
open Go
open Sat
/-- What reading comes to, told of the digits d and the sign m. -/
structure Reads (l d : List UInt8) (m : Bool) : Prop where
  nought : ∀ r, d = 48 :: r → 1 < l.length → Sat.read l = (0, 2)
  bad : Sat.digs d = false → Sat.read l = (0, 2)
  big : Sat.digs d = true → d ≠ [] → ((∀ r, d = 48 :: r → ¬ 1 < l.length)) → 9223372036854775808 < Sat.valA 0 d → Sat.read l = (0, 3)
  neg : m = true → Sat.digs d = true → d ≠ [] → ((∀ r, d = 48 :: r → ¬ 1 < l.length)) → Sat.valA 0 d ≤ 9223372036854775808 → Sat.read l = (-(Sat.valA 0 d : Int), 0)
  pos : m = false → Sat.digs d = true → d ≠ [] → ((∀ r, d = 48 :: r → ¬ 1 < l.length)) → Sat.valA 0 d < 9223372036854775808 → Sat.read l = ((Sat.valA 0 d : Int), 0)
  top : m = false → Sat.digs d = true → d ≠ [] → ((∀ r, d = 48 :: r → ¬ 1 < l.length)) → Sat.valA 0 d = 9223372036854775808 → Sat.read l = (0, 3)
theorem noform_of {l : List UInt8} (h : Sat.form l ≠ true) : Sat.read l = (0, 2) := Sat.read_noform (by simpa using h)
theorem reads_minus (d : List UInt8) (hd : d ≠ []) : Reads (45 :: d) d true := by
  have hc : Sat.cut (45 :: d) = (d, true) := by simp [Sat.cut]
  have hlen : 1 < (45 :: d).length := by
    cases d with
    | nil => exact absurd rfl hd
    | cons a b => simp
  have hform : Sat.digs d = true → (∀ r, d = 48 :: r → ¬ 1 < (45 :: d).length) → Sat.form (45 :: d) = true := by
    intro h1 h2
    cases d with
    | nil => exact absurd rfl hd
    | cons c r => exact Sat.form_of hc h1 ⟨c, r, rfl, fun h => absurd hlen (h2 r (by rw [h]))⟩
  refine ⟨?_, ?_, ?_, ?_, ?_, ?_⟩
  · rintro r rfl _
    apply noform_of
    intro h
    obtain ⟨c, r', e, h48⟩ := Sat.form_parts h
    rw [hc] at e h48
    simp only [List.cons.injEq] at e
    exact absurd (h48 e.1.symm).2 (by simp)
  · intro h
    apply noform_of
    intro hf
    have := (Sat.form_digs hf).1
    rw [hc, h] at this
    cases this
  · intro h1 _ h2 h3
    exact (Sat.read_minus (hform h1 h2) hc).2 (by omega)
  · intro _ h1 _ h2 h3
    exact (Sat.read_minus (hform h1 h2) hc).1 h3
  · intro h; cases h
  · intro h; cases h
theorem reads_plain (l : List UInt8) (hl : ¬ (1 < l.length ∧ ∃ r, l = 45 :: r)) : Reads l l false := by
  have hcut : Sat.digs l = true → l ≠ [] → Sat.cut l = (l, false) := by
    intro h1 h2
    cases l with
    | nil => exact absurd rfl h2
    | cons c r =>
      have := ((Sat.digs_cons c r).1 h1).1
      have hc : c ≠ 45 := by rintro rfl; exact absurd this.1 (by decide)
      simp [Sat.cut, hc]
  have hform : Sat.digs l = true → l ≠ [] → (∀ r, l = 48 :: r → ¬ 1 < l.length) → Sat.form l = true := by
    intro h1 h0 h2
    have hc := hcut h1 h0
    cases l with
    | nil => exact absurd rfl h0
    | cons c r =>
      refine Sat.form_of hc h1 ⟨c, r, rfl, fun h => ⟨?_, rfl⟩⟩
      have := h2 r (by rw [h])
      simp at this
      exact this
  refine ⟨?_, ?_, ?_, ?_, ?_, ?_⟩
  · rintro r rfl hlen
    apply noform_of
    intro h
    have hc : Sat.cut (48 :: r) = (48 :: r, false) := by simp [Sat.cut]
    obtain ⟨c, r', e, h48⟩ := Sat.form_parts h
    rw [hc] at e h48
    simp only [List.cons.injEq] at e
    have := (h48 e.1.symm).1
    rw [e.2, this] at hlen
    simp at hlen
  · intro h
    apply noform_of
    intro hf
    rcases Sat.cut_form l hf with ⟨r, e, hc, hn, hd⟩ | ⟨c, r, e, _, _, hc, hd⟩
    · refine hl ⟨?_, r, e⟩
      rw [e]
      cases r with
      | nil => exact absurd rfl hn
      | cons a b => simp
    · rw [h] at hd; cases hd
  · intro h1 h0 h2 h3
    exact (Sat.read_plain (hform h1 h0 h2) (hcut h1 h0)).2 (by omega)
  · intro h; cases h
  · intro _ h1 h0 h2 h3
    exact (Sat.read_plain (hform h1 h0 h2) (hcut h1 h0)).1 h3
  · intro _ h1 h0 h2 h3
    exact (Sat.read_plain (hform h1 h0 h2) (hcut h1 h0)).2 (by omega)
theorem valA_take_le (l : List UInt8) (k : Nat) : Sat.valA 0 (l.take k) ≤ Sat.valA 0 l := by
  have h := List.take_append_drop k l
  have e : Sat.valA 0 l = Sat.valA 0 (l.take k ++ l.drop k) := by rw [h]
  rw [e, Sat.valA_append]
  exact Sat.valA_ge _ _
theorem valA_snoc (l : List UInt8) (c : UInt8) : Sat.valA 0 (l ++ [c]) = Sat.valA 0 l * 10 + (c.toNat - 48) := by
  rw [Sat.valA_append, Sat.valA_cons, Sat.valA_nil]
end Go.Proofs.YtehgpibngalhfaaGreatDoor.St
namespace Go.Proofs.YtehgpibngalhfaaGreatDoor.St
open Go Go.RowKit
open Sat
/-- The last digit's byte. -/
def dgB (v : Nat) : UInt8 := UInt8.ofNat (48 + v % 10)
theorem dgB_toNat (v : Nat) : (dgB v).toNat = 48 + v % 10 := by unfold dgB; exact Sat.dig_toNat _ (by omega)
theorem conv1 (wr : World) (v : Nat) (x : Int) (hx : x = ((48 + v % 10 : Nat) : Int)) : Sem.run Tryz.prog (convert 66 9 (Value.slice (some { block := wr.heap.size, off := 0 }) 1 1)) (wr.alloc (Obj.cells #[Value.int IntKind.u8 x] 5)) = .ok (.string ⟨#[dgB v]⟩) (wr.alloc (Obj.cells #[Value.int IntKind.u8 x] 5)) := by
  subst hx
  exact run_convert_bytes_back (P := Tryz.prog) (wr.alloc (Obj.cells #[Value.int IntKind.u8 ((48 + v % 10 : Nat) : Int)] 5)) 66 9 5 ⟨wr.heap.size, 0, none⟩ 1 [dgB v] Tryz.underlying66 Tryz.underlying5 Tryz.underlying9 (fun j hj => by
    have hj0 : j = 0 := by simp at hj; exact hj
    subst hj0
    simp only [List.getElem_cons_zero, dgB_toNat]
    simp [Addr.add])
theorem tm (v : Nat) : (-(v : Int)).tmod 10 = -((v % 10 : Nat) : Int) := by
  rw [Int.neg_tmod, Int.tmod_eq_emod_of_nonneg (by omega)]; omega
theorem td (v : Nat) : (-(v : Int)).tdiv 10 = -((v / 10 : Nat) : Int) := by
  rw [Int.neg_tdiv, Int.tdiv_eq_ediv_of_nonneg (by omega)]; omega
theorem one_data (c : UInt8) (S : ByteArray) : ((⟨#[c]⟩ : ByteArray) ++ S).data.toList = c :: S.data.toList := by
  rw [ByteArray.data_append]; simp
theorem step_end {v : Nat} {S : ByteArray} {D : List UInt8} (h : Lib.decDigits v ++ S.data.toList = D) (hz : v / 10 = 0) : ((⟨#[dgB v]⟩ : ByteArray) ++ S).data.toList = D := by
  rw [one_data, ← h, Sat.dec_lt (by omega)]
  unfold dgB
  rw [Nat.mod_eq_of_lt (by omega)]
  rfl
theorem step_on {v : Nat} {S : ByteArray} {D : List UInt8} (h : Lib.decDigits v ++ S.data.toList = D) (hz : v / 10 ≠ 0) : Lib.decDigits (v / 10) ++ ((⟨#[dgB v]⟩ : ByteArray) ++ S).data.toList = D := by
  rw [one_data, ← h, Sat.dec_ge (u := v) (by omega)]
  unfold dgB
  simp
theorem decLen (n : Int) (h0 : -9223372036854775808 ≤ n) (h1 : n ≤ 9223372036854775807) : (Lib.decDigits n.natAbs).length ≤ 21 := by
  have h := Lib.itoa_length_le n h0 h1
  unfold Lib.itoa at h
  split at h
  · simp at h; omega
  · rw [show n.natAbs = n.toNat from by omega]; exact h
theorem baEq {a : ByteArray} {l : List UInt8} (h : a.data.toList = l) : a = ⟨l.toArray⟩ := by
  apply ByteArray.ext
  rw [← h]
set_option maxRecDepth 100000 in
set_option maxHeartbeats 400000 in
theorem refNumber_any (n : Int) (w : World) (h0 : -9223372036854775808 ≤ n) (h1 : n ≤ 9223372036854775807) :
    Calls Tryz.prog 33 #[.int .i64 n] w fun e w' => e = .returned (.string ⟨(Lib.itoa n).toArray⟩) ∧ Below w.heap.size w w' := by
  have hDL := decLen n h0 h1
  have HI : Hid (Lib.itoa n = if n < 0 then 45 :: Lib.decDigits n.natAbs else Lib.decDigits n.natAbs) := by
    show _ = _
    unfold Lib.itoa
    split
    · rfl
    · rw [show n.natAbs = n.toNat from by omega]
  generalize hD : Lib.decDigits n.natAbs = D at *
  have HDn := Lib.hid hD
  clear hD
  have key : ∀ (v : Nat) (q : Int) (S : ByteArray), q = -(v : Int) → Lib.decDigits v ++ S.data.toList = D → (q.tdiv 10 == 0) = true → ((⟨#[dgB v]⟩ : ByteArray) ++ S).data.toList = D := by
    intro v q S hq hd hz
    rw [hq, td] at hz
    exact step_end hd (by simp at hz; omega)
  have keyOn : ∀ (v : Nat) (q : Int) (S : ByteArray), q = -(v : Int) → Lib.decDigits v ++ S.data.toList = D → (q.tdiv 10 == 0) = false → Lib.decDigits (v / 10) ++ ((⟨#[dgB v]⟩ : ByteArray) ++ S).data.toList = D ∧ q.tdiv 10 = -((v / 10 : Nat) : Int) ∧ ((⟨#[dgB v]⟩ : ByteArray) ++ S).size ≤ 21 ∧ (q.tdiv 10).natAbs < q.natAbs := by
    intro v q S hq hd hz
    rw [hq, td] at hz ⊢
    have hne : v / 10 ≠ 0 := by simp at hz; omega
    have h1 := step_on hd hne
    refine ⟨h1, rfl, ?_, by omega⟩
    have := congrArg List.length h1
    rw [List.length_append, ← size_list] at this
    omega
  have HK := Lib.hid key
  have HKO := Lib.hid keyOn
  clear key keyOn
  have H0 : Hid (∀ v : Nat, (v : Int) = n.natAbs → Lib.decDigits v ++ (⟨#[]⟩ : ByteArray).data.toList = D) := by
    intro v hv
    rw [← HDn.out]
    have : v = n.natAbs := by omega
    rw [this]; simp
  rcases Int.lt_trichotomy n 0 with hn | hn | hn
  · go_enter Tryz.func33, Tryz.ntmps33
    go_wp2_with fail
    go_loopw [3, 4] (fun m s wr => ∃ (v : Nat) (q : Int) (S : ByteArray), m = .int .i64 q ∧ s = .string S ∧ q ≤ 0 ∧ -9223372036854775808 ≤ q ∧ S.size ≤ 21 ∧ Hid (q = -(v : Int)) ∧ Hid (Lib.decDigits v ++ S.data.toList = D) ∧ Below w.heap.size w wr) (fun m _ _ => (intOf m).natAbs)
    case atStart => exact ⟨n.natAbs, n, ⟨#[]⟩, rfl, rfl, by omega, by omega, by decide, show _ = _ from by omega, H0.out _ rfl, Below.refl _ _⟩
    case round =>
      obtain ⟨v, q, S, rfl, rfl, hq0, hq1, hS, HQ, HD, hb⟩ := hrel
      have hr0 : -9 ≤ q.tmod 10 := by rw [HQ.out, tm]; omega
      have hr1 : q.tmod 10 ≤ 0 := by rw [HQ.out, tm]; omega
      have ht0 : -922337203685477580 ≤ q.tdiv 10 := by rw [HQ.out, td]; have := HQ.out; omega
      have ht1 : q.tdiv 10 ≤ 0 := by rw [HQ.out, td]; omega
      have hcv := conv1 wr v (48 + -q.tmod 10) (by rw [HQ.out, tm]; omega)
      go_wp2_with fail
      case roundEnd =>
        obtain ⟨k1, k2, k3, k4⟩ := HKO.out v q S HQ.out HD.out (by assumption)
        exact ⟨⟨v / 10, _, _, rfl, rfl, ht1, by omega, k3, k2, k1, hb.alloc hb.size _⟩, k4⟩
      all_goals
        go_ret
        refine ⟨ret_str ?_, hb.alloc hb.size _⟩
        rw [HI.out, if_pos hn]
        exact baEq (by rw [one_data, HK.out v q S HQ.out HD.out (by assumption)])
  · have a1 : n ≤ 0 := by omega
    have a2 : 0 ≤ n := by omega
    clear hn
    go_enter Tryz.func33, Tryz.ntmps33
    go_wp2_with fail
    go_loopw [3, 4] (fun m s wr => ∃ (v : Nat) (q : Int) (S : ByteArray), m = .int .i64 q ∧ s = .string S ∧ q ≤ 0 ∧ -9223372036854775808 ≤ q ∧ S.size ≤ 21 ∧ Hid (q = -(v : Int)) ∧ Hid (Lib.decDigits v ++ S.data.toList = D) ∧ Below w.heap.size w wr) (fun m _ _ => (intOf m).natAbs)
    case atStart => exact ⟨n.natAbs, n, ⟨#[]⟩, rfl, rfl, by omega, by omega, by decide, show _ = _ from by omega, H0.out _ rfl, Below.refl _ _⟩
    case round =>
      obtain ⟨v, q, S, rfl, rfl, hq0, hq1, hS, HQ, HD, hb⟩ := hrel
      have hr0 : -9 ≤ q.tmod 10 := by rw [HQ.out, tm]; omega
      have hr1 : q.tmod 10 ≤ 0 := by rw [HQ.out, tm]; omega
      have ht0 : -922337203685477580 ≤ q.tdiv 10 := by rw [HQ.out, td]; have := HQ.out; omega
      have ht1 : q.tdiv 10 ≤ 0 := by rw [HQ.out, td]; omega
      have hcv := conv1 wr v (48 + -q.tmod 10) (by rw [HQ.out, tm]; omega)
      go_wp2_with fail
      case roundEnd =>
        obtain ⟨k1, k2, k3, k4⟩ := HKO.out v q S HQ.out HD.out (by assumption)
        exact ⟨⟨v / 10, _, _, rfl, rfl, ht1, by omega, k3, k2, k1, hb.alloc hb.size _⟩, k4⟩
      all_goals
        go_ret
        refine ⟨ret_str ?_, hb.alloc hb.size _⟩
        rw [HI.out, if_neg (by omega)]
        exact baEq (HK.out v q S HQ.out HD.out (by assumption))
  · go_enter Tryz.func33, Tryz.ntmps33
    go_wp2_with fail
    go_loopw [3, 4] (fun m s wr => ∃ (v : Nat) (q : Int) (S : ByteArray), m = .int .i64 q ∧ s = .string S ∧ q ≤ 0 ∧ -9223372036854775808 ≤ q ∧ S.size ≤ 21 ∧ Hid (q = -(v : Int)) ∧ Hid (Lib.decDigits v ++ S.data.toList = D) ∧ Below w.heap.size w wr) (fun m _ _ => (intOf m).natAbs)
    case atStart => exact ⟨n.natAbs, -n, ⟨#[]⟩, rfl, rfl, by omega, by omega, by decide, show _ = _ from by omega, H0.out _ rfl, Below.refl _ _⟩
    case round =>
      obtain ⟨v, q, S, rfl, rfl, hq0, hq1, hS, HQ, HD, hb⟩ := hrel
      have hr0 : -9 ≤ q.tmod 10 := by rw [HQ.out, tm]; omega
      have hr1 : q.tmod 10 ≤ 0 := by rw [HQ.out, tm]; omega
      have ht0 : -922337203685477580 ≤ q.tdiv 10 := by rw [HQ.out, td]; have := HQ.out; omega
      have ht1 : q.tdiv 10 ≤ 0 := by rw [HQ.out, td]; omega
      have hcv := conv1 wr v (48 + -q.tmod 10) (by rw [HQ.out, tm]; omega)
      go_wp2_with fail
      case roundEnd =>
        obtain ⟨k1, k2, k3, k4⟩ := HKO.out v q S HQ.out HD.out (by assumption)
        exact ⟨⟨v / 10, _, _, rfl, rfl, ht1, by omega, k3, k2, k1, hb.alloc hb.size _⟩, k4⟩
      all_goals
        go_ret
        refine ⟨ret_str ?_, hb.alloc hb.size _⟩
        rw [HI.out, if_neg (by omega)]
        exact baEq (HK.out v q S HQ.out HD.out (by assumption))
set_option maxRecDepth 100000 in
set_option maxHeartbeats 400000 in
theorem refText_any (n : Int) (o : Bool) (w : World) (h0 : -9223372036854775808 ≤ n) (h1 : n ≤ 9223372036854775807) :
    Calls Tryz.prog 54 #[.agg #[.int .i64 n, .bool o]] w fun e w' => e = .returned (.string ⟨(textL n o).toArray⟩) ∧ Below w.heap.size w w' := by
  have hl := Lib.itoa_length_le n h0 h1
  cases o
  · have hf : textL n false = Lib.itoa n := by simp [textL]
    rw [hf]
    clear hf
    go_enter Tryz.func54, Tryz.ntmps54
    go_wp2_with fail
    refine (refNumber_any n _ h0 h1).mono ?_
    rintro e w1 ⟨rfl, hb⟩
    go_wp2
    go_ret
    exact ⟨rfl, belowAlloc hb⟩
  · have hf : textL n true = Lib.itoa n ++ [33] := by simp [textL]
    rw [hf]
    clear hf
    go_enter Tryz.func54, Tryz.ntmps54
    go_wp2_with fail
    refine (refNumber_any n _ h0 h1).mono ?_
    rintro e w1 ⟨rfl, hb⟩
    go_wp2
    go_ret
    exact ⟨ret_str (ba_append _ _), belowAlloc hb⟩
end Go.Proofs.YtehgpibngalhfaaGreatDoor.St
namespace Go.Proofs.YtehgpibngalhfaaGreatDoor.St
open Go Go.RowKit
open Sat
theorem ret2p {a b : Int} {R : Int × Int} (h : R = (a, b)) : Ending.returned (.tuple #[.int .i64 a, .int .i64 b]) = .returned (.tuple #[.int .i64 R.1, .int .i64 R.2]) := by
  rw [h]
theorem tdq (x : Int) (h0 : 0 ≤ x) (h1 : x ≤ 9) : (-9223372036854775808 + x).tdiv 10 = -((9223372036854775808 - x) / 10) := by
  rw [show (-9223372036854775808 + x : Int) = -(9223372036854775808 - x) from by omega, Int.neg_tdiv, Int.tdiv_eq_ediv_of_nonneg (by omega)]
theorem wr64 (x : Int) (h0 : -9223372036854775808 ≤ x) (h1 : x ≤ 9223372036854775807) : wrap64 x = x := by
  unfold wrap64; omega
theorem headNe (D : ByteArray) (hp : 0 < D.size) (h : (((D[0]).toNat : Int) == 48) = false) : ∀ r, D.data.toList ≠ 48 :: r := by
  intro r e
  have hh := head_list D hp
  rw [hh] at e
  injection e with e1 _
  rw [e1] at h
  exact absurd h (by decide)
theorem headEq (D : ByteArray) (hp : 0 < D.size) (h : (((D[0]).toNat : Int) == 48) = true) : D.data.toList = 48 :: D.data.toList.tail := by
  have hh := head_list D hp
  have h48 : D[0] = 48 := by apply UInt8.toNat_inj.1; simp at h; have h4 : (48 : UInt8).toNat = 48 := rfl; omega
  rw [h48] at hh
  exact hh
theorem ne_nil (D : ByteArray) (hp : 0 < D.size) : D.data.toList ≠ [] := by
  intro h
  have := size_list D
  rw [h] at this
  simp only [List.length_nil] at this
  omega
theorem ne_empty (D : ByteArray) (hp : 0 < D.size) : ¬ D = ByteArray.empty := by
  rintro rfl
  exact absurd hp (by decide)
set_option maxRecDepth 100000 in
set_option maxHeartbeats 1000000 in
theorem refRead_minus (s : ByteArray) (w : World) (hs : s.size ≤ 281474976710656) (h1 : 1 < s.size) (h45 : (((s[0]'(by omega)).toNat : Int) == 45) = true) :
    Calls Tryz.prog 59 #[.string s] w fun e w' => e = .returned (.tuple #[.int .i64 (Sat.read s.data.toList).1, .int .i64 (Sat.read s.data.toList).2]) ∧ w' = w := by
  obtain ⟨D, hD⟩ : ∃ D, s.extract 1 s.size = D := ⟨_, rfl⟩
  have hl : s.data.toList = 45 :: D.data.toList := by
    have hh := head_list s (by omega)
    have e45 : s[0] = 45 := by apply UInt8.toNat_inj.1; simp at h45; have h4 : (45 : UInt8).toNat = 45 := rfl; omega
    have hn : s.data.toList.length = s.size := (size_list s).symm
    rw [← hD, Lib.extract_data, List.take_of_length_le (by simp), List.drop_one, ← e45]
    exact hh
  have hp : 0 < D.size := by have a := size_list s; have b := size_list D; rw [hl] at a; simp at a; omega
  have hls : D.size < s.size := by have a := size_list s; have b := size_list D; rw [hl] at a; simp at a; omega
  have hR := reads_minus D.data.toList (ne_nil D hp)
  rw [← hl] at hR
  have hlen : 1 < s.data.toList.length := by rw [← size_list]; exact h1
  have HN0 := Lib.hid hR.nought
  have HB := Lib.hid hR.bad
  have HBig := Lib.hid hR.big
  have HNeg := Lib.hid (hR.neg rfl)
  have HL := Lib.hid hlen
  clear hR hl hlen
  generalize Sat.read s.data.toList = R at *
  have hz : ((D.size : Int) == 0) = false := by rw [beq_eq_false_iff_ne]; omega
  have hne := ne_empty D hp
  by_cases h48 : (((D[0]).toNat : Int) == 48) = true
  · have HF : Hid (R = (0, 2)) := HN0.out _ (headEq D hp h48) HL.out
    go_enter Tryz.func59, Tryz.ntmps59
    go_wp2_with fail
    go_ret2
    exact ⟨ret2p HF.out, rfl⟩
  have h48' : (((D[0]).toNat : Int) == 48) = false := by simpa using h48
  clear h48
  have HC : Hid (∀ r, D.data.toList = 48 :: r → ¬ 1 < s.data.toList.length) := fun r e => absurd e (headNe D hp h48' r)
  have HNN := Lib.hid (ne_nil D hp)
  have HG : Hid (Sat.digs D.data.toList = true → 9223372036854775808 < Sat.valA 0 D.data.toList → R = (0, 3)) := fun a b => HBig.out a HNN.out HC.out b
  go_enter Tryz.func59, Tryz.ntmps59
  go_wp2_with fail
  -- the digits
  go_loop [5] (fun i => ∃ k : Nat, k ≤ D.size ∧ i = .int .i64 k ∧ Hid (Sat.digs (D.data.toList.take k) = true)) (fun i => D.size - (intOf i).toNat)
  case atStart => exact ⟨0, Nat.zero_le _, rfl, rfl⟩
  case round =>
    obtain ⟨k, hk, rfl, HDk⟩ := hrel
    by_cases hlt : k < D.size
    · have hts := take_snoc D k hlt
      have HS : Hid (Sat.digs (D.data.toList.take (k + 1)) = (Sat.digs (D.data.toList.take k) && (decide (48 ≤ (D[k]).toNat) && decide ((D[k]).toNat ≤ 57)))) := by rw [hts]; exact digs_snoc _ _
      clear hts
      have HN : Hid ((((D[k]).toNat : Int) < 48 ∨ 57 < ((D[k]).toNat : Int)) → R = (0, 2)) := by
        intro h
        have h1 := HS.out
        rw [HDk.out] at h1
        have h2 : Sat.digs (D.data.toList.take (k + 1)) = false := by rw [h1]; simp; omega
        exact HB.out (digs_take h2)
      go_wp2_with fail
      case roundEnd =>
        have h2 : 48 ≤ ((D[k]).toNat : Int) ∧ ((D[k]).toNat : Int) ≤ 57 := by assumption
        refine ⟨⟨k + 1, by omega, by go_num, ?_⟩, by simp [intOf]; omega⟩
        show _ = _
        rw [HS.out, HDk.out]
        simp
        omega
      all_goals
        go_ret2
        exact ⟨ret2p (HN.out (by omega)), rfl⟩
    · have HA : Hid (Sat.digs D.data.toList = true) := by
        have h1 := HDk.out
        rw [List.take_of_length_le (by rw [← size_list]; omega)] at h1
        exact h1
      clear HDk
      go_wp2_with fail
      go_loop [6, 7] (fun n i => ∃ (k : Nat) (q : Int), k ≤ D.size ∧ i = .int .i64 k ∧ n = .int .i64 q ∧ q ≤ 0 ∧ -9223372036854775808 ≤ q ∧ Hid (q = -(Sat.valA 0 (D.data.toList.take k) : Int))) (fun _ i => D.size - (intOf i).toNat)
      case atStart => exact ⟨0, 0, Nat.zero_le _, rfl, rfl, by decide, by decide, by show _ = _; rw [List.take_zero, Sat.valA_nil]; rfl⟩
      case round =>
        obtain ⟨k, q, hk, rfl, rfl, hq0, hq1, HQ⟩ := hrel
        by_cases hlt : k < D.size
        · have hts := take_snoc D k hlt
          have HV : Hid (Sat.valA 0 (D.data.toList.take (k + 1)) = Sat.valA 0 (D.data.toList.take k) * 10 + ((D[k]).toNat - 48)) := by show _ = _; rw [hts]; exact valA_snoc _ _
          have hdg : 48 ≤ ((D[k]).toNat : Int) ∧ ((D[k]).toNat : Int) ≤ 57 := by
            have h1 := HA.out
            have hm : D[k] ∈ D.data.toList := by
              have e : D.data.toList[k]'(by rw [← size_list]; exact hlt) = D[k] := rfl
              rw [← e]; exact List.getElem_mem _
            have h2 := List.all_eq_true.1 h1 _ hm
            rw [Sat.dgt_iff] at h2
            omega
          clear hts
          have hq2 : -9223372036854775808 + (((D[k]).toNat : Int) - 48) ≤ 0 := by omega
          have HB2 : Hid (q < (-9223372036854775808 + (((D[k]).toNat : Int) - 48)).tdiv 10 → R = (0, 3)) := by
            intro h
            rw [tdq _ (by omega) (by omega), HQ.out] at h
            have h2 := HV.out
            have h3 := valA_take_le D.data.toList (k + 1)
            exact HG.out HA.out (by omega)
          have HB3 : Hid (¬ q < (-9223372036854775808 + (((D[k]).toNat : Int) - 48)).tdiv 10 → -9223372036854775808 ≤ 10 * q - (((D[k]).toNat : Int) - 48) ∧ 10 * q - (((D[k]).toNat : Int) - 48) ≤ 0 ∧ 10 * q - (((D[k]).toNat : Int) - 48) = -(Sat.valA 0 (D.data.toList.take (k + 1)) : Int)) := by
            intro h
            rw [tdq _ (by omega) (by omega)] at h
            have h2 := HV.out
            have h3 := HQ.out
            omega
          go_wp2_with fail
          case roundEnd =>
            obtain ⟨b0, b1, b2⟩ := HB3.out (by omega)
            have e : wrap64 (wrap64 (10 * q) - (((D[k]).toNat : Int) - 48)) = 10 * q - (((D[k]).toNat : Int) - 48) := by rw [wr64 (10 * q) (by omega) (by omega), wr64 _ (by omega) (by omega)]
            rw [e]
            exact ⟨⟨k + 1, _, by omega, by go_num, rfl, b1, b0, b2⟩, by simp [intOf]; omega⟩
          all_goals
            go_ret2
            exact ⟨ret2p (HB2.out (by assumption)), rfl⟩
        · have HV : Hid (q = -(Sat.valA 0 D.data.toList : Int)) := by
            have h1 := HQ.out
            rw [List.take_of_length_le (by rw [← size_list]; omega)] at h1
            exact h1
          go_wp2_with fail
          go_ret2
          refine ⟨ret2p ?_, rfl⟩
          have h2 := HV.out
          rw [HNeg.out HA.out HNN.out HC.out (by omega), h2]
set_option maxRecDepth 100000 in
set_option maxHeartbeats 1000000 in
theorem refRead_plain (D : ByteArray) (w : World) (hs : D.size ≤ 281474976710656) (h45 : ∀ h : 1 < D.size, (((D[0]'(by omega)).toNat : Int) == 45) = false) :
    Calls Tryz.prog 59 #[.string D] w fun e w' => e = .returned (.tuple #[.int .i64 (Sat.read D.data.toList).1, .int .i64 (Sat.read D.data.toList).2]) ∧ w' = w := by
  have hR := reads_plain D.data.toList (by
    rintro ⟨hl, r, e⟩
    rw [← size_list] at hl
    have h := h45 hl
    have hh := head_list D (by omega)
    rw [hh] at e
    injection e with e1 _
    rw [e1] at h
    exact absurd h (by decide))
  have HN0 := Lib.hid hR.nought
  have HB := Lib.hid hR.bad
  have HBig := Lib.hid hR.big
  have HPos := Lib.hid (hR.pos rfl)
  have HTop := Lib.hid (hR.top rfl)
  have HE : Hid (D.size = 0 → Sat.read D.data.toList = (0, 2)) := by
    intro h
    rw [List.length_eq_zero_iff.1 (by rw [← size_list]; exact h : D.data.toList.length = 0)]
    decide
  clear hR
  generalize Sat.read D.data.toList = R at *
  by_cases hp : 0 < D.size
  · have hz : ((D.size : Int) == 0) = false := by rw [beq_eq_false_iff_ne]; omega
    have hne := ne_empty D hp
    by_cases h1 : 1 < D.size
    · have h45' := h45 h1
      clear h45
      by_cases h48 : (((D[0]).toNat : Int) == 48) = true
      · have HF : Hid (R = (0, 2)) := HN0.out _ (headEq D hp h48) (by rw [← size_list]; exact h1)
        go_enter Tryz.func59, Tryz.ntmps59
        go_wp2_with fail
        go_ret2
        exact ⟨ret2p HF.out, rfl⟩
      · have h48' : (((D[0]).toNat : Int) == 48) = false := by simpa using h48
        clear h48
        have HC : Hid (∀ r, D.data.toList = 48 :: r → ¬ 1 < D.data.toList.length) := fun r e => absurd e (headNe D hp h48' r)
        have HNN := Lib.hid (ne_nil D hp)
        have HG : Hid (Sat.digs D.data.toList = true → 9223372036854775808 < Sat.valA 0 D.data.toList → R = (0, 3)) := fun a b => HBig.out a HNN.out HC.out b
        go_enter Tryz.func59, Tryz.ntmps59
        go_wp2_with fail
        -- the digits
        go_loop [5] (fun i => ∃ k : Nat, k ≤ D.size ∧ i = .int .i64 k ∧ Hid (Sat.digs (D.data.toList.take k) = true)) (fun i => D.size - (intOf i).toNat)
        case atStart => exact ⟨0, Nat.zero_le _, rfl, rfl⟩
        case round =>
          obtain ⟨k, hk, rfl, HDk⟩ := hrel
          by_cases hlt : k < D.size
          · have hts := take_snoc D k hlt
            have HS : Hid (Sat.digs (D.data.toList.take (k + 1)) = (Sat.digs (D.data.toList.take k) && (decide (48 ≤ (D[k]).toNat) && decide ((D[k]).toNat ≤ 57)))) := by rw [hts]; exact digs_snoc _ _
            clear hts
            have HN : Hid ((((D[k]).toNat : Int) < 48 ∨ 57 < ((D[k]).toNat : Int)) → R = (0, 2)) := by
              intro h
              have h1 := HS.out
              rw [HDk.out] at h1
              have h2 : Sat.digs (D.data.toList.take (k + 1)) = false := by rw [h1]; simp; omega
              exact HB.out (digs_take h2)
            go_wp2_with fail
            case roundEnd =>
              have h2 : 48 ≤ ((D[k]).toNat : Int) ∧ ((D[k]).toNat : Int) ≤ 57 := by assumption
              refine ⟨⟨k + 1, by omega, by go_num, ?_⟩, by simp [intOf]; omega⟩
              show _ = _
              rw [HS.out, HDk.out]
              simp
              omega
            all_goals
              go_ret2
              exact ⟨ret2p (HN.out (by omega)), rfl⟩
          · have HA : Hid (Sat.digs D.data.toList = true) := by
              have h1 := HDk.out
              rw [List.take_of_length_le (by rw [← size_list]; omega)] at h1
              exact h1
            clear HDk
            go_wp2_with fail
            go_loop [6, 7] (fun n i => ∃ (k : Nat) (q : Int), k ≤ D.size ∧ i = .int .i64 k ∧ n = .int .i64 q ∧ q ≤ 0 ∧ -9223372036854775808 ≤ q ∧ Hid (q = -(Sat.valA 0 (D.data.toList.take k) : Int))) (fun _ i => D.size - (intOf i).toNat)
            case atStart => exact ⟨0, 0, Nat.zero_le _, rfl, rfl, by decide, by decide, by show _ = _; rw [List.take_zero, Sat.valA_nil]; rfl⟩
            case round =>
              obtain ⟨k, q, hk, rfl, rfl, hq0, hq1, HQ⟩ := hrel
              by_cases hlt : k < D.size
              · have hts := take_snoc D k hlt
                have HV : Hid (Sat.valA 0 (D.data.toList.take (k + 1)) = Sat.valA 0 (D.data.toList.take k) * 10 + ((D[k]).toNat - 48)) := by show _ = _; rw [hts]; exact valA_snoc _ _
                have hdg : 48 ≤ ((D[k]).toNat : Int) ∧ ((D[k]).toNat : Int) ≤ 57 := by
                  have h1 := HA.out
                  have hm : D[k] ∈ D.data.toList := by
                    have e : D.data.toList[k]'(by rw [← size_list]; exact hlt) = D[k] := rfl
                    rw [← e]; exact List.getElem_mem _
                  have h2 := List.all_eq_true.1 h1 _ hm
                  rw [Sat.dgt_iff] at h2
                  omega
                clear hts
                have hq2 : -9223372036854775808 + (((D[k]).toNat : Int) - 48) ≤ 0 := by omega
                have HB2 : Hid (q < (-9223372036854775808 + (((D[k]).toNat : Int) - 48)).tdiv 10 → R = (0, 3)) := by
                  intro h
                  rw [tdq _ (by omega) (by omega), HQ.out] at h
                  have h2 := HV.out
                  have h3 := valA_take_le D.data.toList (k + 1)
                  exact HG.out HA.out (by omega)
                have HB3 : Hid (¬ q < (-9223372036854775808 + (((D[k]).toNat : Int) - 48)).tdiv 10 → -9223372036854775808 ≤ 10 * q - (((D[k]).toNat : Int) - 48) ∧ 10 * q - (((D[k]).toNat : Int) - 48) ≤ 0 ∧ 10 * q - (((D[k]).toNat : Int) - 48) = -(Sat.valA 0 (D.data.toList.take (k + 1)) : Int)) := by
                  intro h
                  rw [tdq _ (by omega) (by omega)] at h
                  have h2 := HV.out
                  have h3 := HQ.out
                  omega
                go_wp2_with fail
                case roundEnd =>
                  obtain ⟨b0, b1, b2⟩ := HB3.out (by omega)
                  have e : wrap64 (wrap64 (10 * q) - (((D[k]).toNat : Int) - 48)) = 10 * q - (((D[k]).toNat : Int) - 48) := by rw [wr64 (10 * q) (by omega) (by omega), wr64 _ (by omega) (by omega)]
                  rw [e]
                  exact ⟨⟨k + 1, _, by omega, by go_num, rfl, b1, b0, b2⟩, by simp [intOf]; omega⟩
                all_goals
                  go_ret2
                  exact ⟨ret2p (HB2.out (by assumption)), rfl⟩
              · have HV : Hid (q = -(Sat.valA 0 D.data.toList : Int)) := by
                  have h1 := HQ.out
                  rw [List.take_of_length_le (by rw [← size_list]; omega)] at h1
                  exact h1
                have HX : Hid ((q == -9223372036854775808) = true → R = (0, 3)) := by
                  intro h
                  have h2 := HV.out
                  exact HTop.out HA.out HNN.out HC.out (by simp at h; omega)
                have HY : Hid ((q == -9223372036854775808) = false → R = (-q, 0)) := by
                  intro h
                  have h2 := HV.out
                  have h3 : q ≠ -9223372036854775808 := by simpa using h
                  rw [HPos.out HA.out HNN.out HC.out (by omega), h2, Int.neg_neg]
                by_cases hm : (q == -9223372036854775808) = true
                · go_wp2_with fail
                  go_ret2
                  exact ⟨ret2p (HX.out hm), rfl⟩
                · have hm' : (q == -9223372036854775808) = false := by simpa using hm
                  have hm2 : -9223372036854775807 ≤ q := by have h3 : q ≠ -9223372036854775808 := by simpa using hm
                                                            omega
                  clear hm
                  go_wp2_with fail
                  go_ret2
                  exact ⟨ret2p (HY.out hm'), rfl⟩
    · clear h45
      have HC : Hid (∀ r, D.data.toList = 48 :: r → ¬ 1 < D.data.toList.length) := fun r e => by rw [← size_list]; exact h1
      have HNN := Lib.hid (ne_nil D hp)
      have HG : Hid (Sat.digs D.data.toList = true → 9223372036854775808 < Sat.valA 0 D.data.toList → R = (0, 3)) := fun a b => HBig.out a HNN.out HC.out b
      have h1' : D.size = 1 := by omega
      have h1i : (D.size : Int) ≤ 1 := by omega
      clear h1' 
      go_enter Tryz.func59, Tryz.ntmps59
      by_cases h48 : (((D[0]).toNat : Int) == 48) = true
      · go_wp2_with fail
        -- the digits
        go_loop [5] (fun i => ∃ k : Nat, k ≤ D.size ∧ i = .int .i64 k ∧ Hid (Sat.digs (D.data.toList.take k) = true)) (fun i => D.size - (intOf i).toNat)
        case atStart => exact ⟨0, Nat.zero_le _, rfl, rfl⟩
        case round =>
          obtain ⟨k, hk, rfl, HDk⟩ := hrel
          by_cases hlt : k < D.size
          · have hts := take_snoc D k hlt
            have HS : Hid (Sat.digs (D.data.toList.take (k + 1)) = (Sat.digs (D.data.toList.take k) && (decide (48 ≤ (D[k]).toNat) && decide ((D[k]).toNat ≤ 57)))) := by rw [hts]; exact digs_snoc _ _
            clear hts
            have HN : Hid ((((D[k]).toNat : Int) < 48 ∨ 57 < ((D[k]).toNat : Int)) → R = (0, 2)) := by
              intro h
              have h1 := HS.out
              rw [HDk.out] at h1
              have h2 : Sat.digs (D.data.toList.take (k + 1)) = false := by rw [h1]; simp; omega
              exact HB.out (digs_take h2)
            go_wp2_with fail
            case roundEnd =>
              have h2 : 48 ≤ ((D[k]).toNat : Int) ∧ ((D[k]).toNat : Int) ≤ 57 := by assumption
              refine ⟨⟨k + 1, by omega, by go_num, ?_⟩, by simp [intOf]; omega⟩
              show _ = _
              rw [HS.out, HDk.out]
              simp
              omega
            all_goals
              go_ret2
              exact ⟨ret2p (HN.out (by omega)), rfl⟩
          · have HA : Hid (Sat.digs D.data.toList = true) := by
              have h1 := HDk.out
              rw [List.take_of_length_le (by rw [← size_list]; omega)] at h1
              exact h1
            clear HDk
            go_wp2_with fail
            go_loop [6, 7] (fun n i => ∃ (k : Nat) (q : Int), k ≤ D.size ∧ i = .int .i64 k ∧ n = .int .i64 q ∧ q ≤ 0 ∧ -9223372036854775808 ≤ q ∧ Hid (q = -(Sat.valA 0 (D.data.toList.take k) : Int))) (fun _ i => D.size - (intOf i).toNat)
            case atStart => exact ⟨0, 0, Nat.zero_le _, rfl, rfl, by decide, by decide, by show _ = _; rw [List.take_zero, Sat.valA_nil]; rfl⟩
            case round =>
              obtain ⟨k, q, hk, rfl, rfl, hq0, hq1, HQ⟩ := hrel
              by_cases hlt : k < D.size
              · have hts := take_snoc D k hlt
                have HV : Hid (Sat.valA 0 (D.data.toList.take (k + 1)) = Sat.valA 0 (D.data.toList.take k) * 10 + ((D[k]).toNat - 48)) := by show _ = _; rw [hts]; exact valA_snoc _ _
                have hdg : 48 ≤ ((D[k]).toNat : Int) ∧ ((D[k]).toNat : Int) ≤ 57 := by
                  have h1 := HA.out
                  have hm : D[k] ∈ D.data.toList := by
                    have e : D.data.toList[k]'(by rw [← size_list]; exact hlt) = D[k] := rfl
                    rw [← e]; exact List.getElem_mem _
                  have h2 := List.all_eq_true.1 h1 _ hm
                  rw [Sat.dgt_iff] at h2
                  omega
                clear hts
                have hq2 : -9223372036854775808 + (((D[k]).toNat : Int) - 48) ≤ 0 := by omega
                have HB2 : Hid (q < (-9223372036854775808 + (((D[k]).toNat : Int) - 48)).tdiv 10 → R = (0, 3)) := by
                  intro h
                  rw [tdq _ (by omega) (by omega), HQ.out] at h
                  have h2 := HV.out
                  have h3 := valA_take_le D.data.toList (k + 1)
                  exact HG.out HA.out (by omega)
                have HB3 : Hid (¬ q < (-9223372036854775808 + (((D[k]).toNat : Int) - 48)).tdiv 10 → -9223372036854775808 ≤ 10 * q - (((D[k]).toNat : Int) - 48) ∧ 10 * q - (((D[k]).toNat : Int) - 48) ≤ 0 ∧ 10 * q - (((D[k]).toNat : Int) - 48) = -(Sat.valA 0 (D.data.toList.take (k + 1)) : Int)) := by
                  intro h
                  rw [tdq _ (by omega) (by omega)] at h
                  have h2 := HV.out
                  have h3 := HQ.out
                  omega
                go_wp2_with fail
                case roundEnd =>
                  obtain ⟨b0, b1, b2⟩ := HB3.out (by omega)
                  have e : wrap64 (wrap64 (10 * q) - (((D[k]).toNat : Int) - 48)) = 10 * q - (((D[k]).toNat : Int) - 48) := by rw [wr64 (10 * q) (by omega) (by omega), wr64 _ (by omega) (by omega)]
                  rw [e]
                  exact ⟨⟨k + 1, _, by omega, by go_num, rfl, b1, b0, b2⟩, by simp [intOf]; omega⟩
                all_goals
                  go_ret2
                  exact ⟨ret2p (HB2.out (by assumption)), rfl⟩
              · have HV : Hid (q = -(Sat.valA 0 D.data.toList : Int)) := by
                  have h1 := HQ.out
                  rw [List.take_of_length_le (by rw [← size_list]; omega)] at h1
                  exact h1
                have HX : Hid ((q == -9223372036854775808) = true → R = (0, 3)) := by
                  intro h
                  have h2 := HV.out
                  exact HTop.out HA.out HNN.out HC.out (by simp at h; omega)
                have HY : Hid ((q == -9223372036854775808) = false → R = (-q, 0)) := by
                  intro h
                  have h2 := HV.out
                  have h3 : q ≠ -9223372036854775808 := by simpa using h
                  rw [HPos.out HA.out HNN.out HC.out (by omega), h2, Int.neg_neg]
                by_cases hm : (q == -9223372036854775808) = true
                · go_wp2_with fail
                  go_ret2
                  exact ⟨ret2p (HX.out hm), rfl⟩
                · have hm' : (q == -9223372036854775808) = false := by simpa using hm
                  have hm2 : -9223372036854775807 ≤ q := by have h3 : q ≠ -9223372036854775808 := by simpa using hm
                                                            omega
                  clear hm
                  go_wp2_with fail
                  go_ret2
                  exact ⟨ret2p (HY.out hm'), rfl⟩
      · have h48' : (((D[0]).toNat : Int) == 48) = false := by simpa using h48
        clear h48
        go_wp2_with fail
        -- the digits
        go_loop [5] (fun i => ∃ k : Nat, k ≤ D.size ∧ i = .int .i64 k ∧ Hid (Sat.digs (D.data.toList.take k) = true)) (fun i => D.size - (intOf i).toNat)
        case atStart => exact ⟨0, Nat.zero_le _, rfl, rfl⟩
        case round =>
          obtain ⟨k, hk, rfl, HDk⟩ := hrel
          by_cases hlt : k < D.size
          · have hts := take_snoc D k hlt
            have HS : Hid (Sat.digs (D.data.toList.take (k + 1)) = (Sat.digs (D.data.toList.take k) && (decide (48 ≤ (D[k]).toNat) && decide ((D[k]).toNat ≤ 57)))) := by rw [hts]; exact digs_snoc _ _
            clear hts
            have HN : Hid ((((D[k]).toNat : Int) < 48 ∨ 57 < ((D[k]).toNat : Int)) → R = (0, 2)) := by
              intro h
              have h1 := HS.out
              rw [HDk.out] at h1
              have h2 : Sat.digs (D.data.toList.take (k + 1)) = false := by rw [h1]; simp; omega
              exact HB.out (digs_take h2)
            go_wp2_with fail
            case roundEnd =>
              have h2 : 48 ≤ ((D[k]).toNat : Int) ∧ ((D[k]).toNat : Int) ≤ 57 := by assumption
              refine ⟨⟨k + 1, by omega, by go_num, ?_⟩, by simp [intOf]; omega⟩
              show _ = _
              rw [HS.out, HDk.out]
              simp
              omega
            all_goals
              go_ret2
              exact ⟨ret2p (HN.out (by omega)), rfl⟩
          · have HA : Hid (Sat.digs D.data.toList = true) := by
              have h1 := HDk.out
              rw [List.take_of_length_le (by rw [← size_list]; omega)] at h1
              exact h1
            clear HDk
            go_wp2_with fail
            go_loop [6, 7] (fun n i => ∃ (k : Nat) (q : Int), k ≤ D.size ∧ i = .int .i64 k ∧ n = .int .i64 q ∧ q ≤ 0 ∧ -9223372036854775808 ≤ q ∧ Hid (q = -(Sat.valA 0 (D.data.toList.take k) : Int))) (fun _ i => D.size - (intOf i).toNat)
            case atStart => exact ⟨0, 0, Nat.zero_le _, rfl, rfl, by decide, by decide, by show _ = _; rw [List.take_zero, Sat.valA_nil]; rfl⟩
            case round =>
              obtain ⟨k, q, hk, rfl, rfl, hq0, hq1, HQ⟩ := hrel
              by_cases hlt : k < D.size
              · have hts := take_snoc D k hlt
                have HV : Hid (Sat.valA 0 (D.data.toList.take (k + 1)) = Sat.valA 0 (D.data.toList.take k) * 10 + ((D[k]).toNat - 48)) := by show _ = _; rw [hts]; exact valA_snoc _ _
                have hdg : 48 ≤ ((D[k]).toNat : Int) ∧ ((D[k]).toNat : Int) ≤ 57 := by
                  have h1 := HA.out
                  have hm : D[k] ∈ D.data.toList := by
                    have e : D.data.toList[k]'(by rw [← size_list]; exact hlt) = D[k] := rfl
                    rw [← e]; exact List.getElem_mem _
                  have h2 := List.all_eq_true.1 h1 _ hm
                  rw [Sat.dgt_iff] at h2
                  omega
                clear hts
                have hq2 : -9223372036854775808 + (((D[k]).toNat : Int) - 48) ≤ 0 := by omega
                have HB2 : Hid (q < (-9223372036854775808 + (((D[k]).toNat : Int) - 48)).tdiv 10 → R = (0, 3)) := by
                  intro h
                  rw [tdq _ (by omega) (by omega), HQ.out] at h
                  have h2 := HV.out
                  have h3 := valA_take_le D.data.toList (k + 1)
                  exact HG.out HA.out (by omega)
                have HB3 : Hid (¬ q < (-9223372036854775808 + (((D[k]).toNat : Int) - 48)).tdiv 10 → -9223372036854775808 ≤ 10 * q - (((D[k]).toNat : Int) - 48) ∧ 10 * q - (((D[k]).toNat : Int) - 48) ≤ 0 ∧ 10 * q - (((D[k]).toNat : Int) - 48) = -(Sat.valA 0 (D.data.toList.take (k + 1)) : Int)) := by
                  intro h
                  rw [tdq _ (by omega) (by omega)] at h
                  have h2 := HV.out
                  have h3 := HQ.out
                  omega
                go_wp2_with fail
                case roundEnd =>
                  obtain ⟨b0, b1, b2⟩ := HB3.out (by omega)
                  have e : wrap64 (wrap64 (10 * q) - (((D[k]).toNat : Int) - 48)) = 10 * q - (((D[k]).toNat : Int) - 48) := by rw [wr64 (10 * q) (by omega) (by omega), wr64 _ (by omega) (by omega)]
                  rw [e]
                  exact ⟨⟨k + 1, _, by omega, by go_num, rfl, b1, b0, b2⟩, by simp [intOf]; omega⟩
                all_goals
                  go_ret2
                  exact ⟨ret2p (HB2.out (by assumption)), rfl⟩
              · have HV : Hid (q = -(Sat.valA 0 D.data.toList : Int)) := by
                  have h1 := HQ.out
                  rw [List.take_of_length_le (by rw [← size_list]; omega)] at h1
                  exact h1
                have HX : Hid ((q == -9223372036854775808) = true → R = (0, 3)) := by
                  intro h
                  have h2 := HV.out
                  exact HTop.out HA.out HNN.out HC.out (by simp at h; omega)
                have HY : Hid ((q == -9223372036854775808) = false → R = (-q, 0)) := by
                  intro h
                  have h2 := HV.out
                  have h3 : q ≠ -9223372036854775808 := by simpa using h
                  rw [HPos.out HA.out HNN.out HC.out (by omega), h2, Int.neg_neg]
                by_cases hm : (q == -9223372036854775808) = true
                · go_wp2_with fail
                  go_ret2
                  exact ⟨ret2p (HX.out hm), rfl⟩
                · have hm' : (q == -9223372036854775808) = false := by simpa using hm
                  have hm2 : -9223372036854775807 ≤ q := by have h3 : q ≠ -9223372036854775808 := by simpa using hm
                                                            omega
                  clear hm
                  go_wp2_with fail
                  go_ret2
                  exact ⟨ret2p (HY.out hm'), rfl⟩
  · have HF : Hid (R = (0, 2)) := HE.out (by omega)
    have hz : D.size = 0 := by omega
    clear HN0 HB HBig HPos HTop HE h45
    go_enter Tryz.func59, Tryz.ntmps59
    go_wp2_with fail
    go_ret2
    exact ⟨ret2p HF.out, rfl⟩
end Go.Proofs.YtehgpibngalhfaaGreatDoor.St
namespace Go.Proofs.YtehgpibngalhfaaGreatDoor.St
open Go Go.RowKit
open Sat
theorem refRead_any (s : ByteArray) (w : World) (hs : s.size ≤ 281474976710656) :
    Calls Tryz.prog 59 #[.string s] w fun e w' => e = .returned (.tuple #[.int .i64 (Sat.read s.data.toList).1, .int .i64 (Sat.read s.data.toList).2]) ∧ w' = w := by
  by_cases h1 : 1 < s.size
  · by_cases h45 : (((s[0]'(by omega)).toNat : Int) == 45) = true
    · exact refRead_minus s w hs h1 h45
    · exact refRead_plain s w hs (fun _ => by simpa using h45)
  · exact refRead_plain s w hs (fun h => absurd h h1)
theorem last_list (s : ByteArray) (h : 0 < s.size) : s.data.toList = s.data.toList.take (s.size - 1) ++ [s[s.size - 1]] := by
  have := take_snoc s (s.size - 1) (by omega)
  rw [show s.size - 1 + 1 = s.size from by omega, List.take_of_length_le (by rw [← size_list]; exact Nat.le_refl _)] at this
  exact this
theorem bang_last (s : ByteArray) (h : 0 < s.size) : bang s.data.toList = (((s[s.size - 1]).toNat : Int) == 33) := by
  have e := last_list s h
  rw [e, bang_snoc, Bool.eq_iff_iff]
  simp
  constructor
  · intro h; rw [h]; rfl
  · intro h; apply UInt8.toNat_inj.1; have h4 : (33 : UInt8).toNat = 33 := rfl; omega
set_option maxRecDepth 100000 in
set_option maxHeartbeats 1000000 in
theorem refParse_any (s : ByteArray) (w : World) (hs : s.size ≤ 281474976710656) :
    Calls Tryz.prog 62 #[.string s] w fun e w' => e = .returned (.tuple #[.agg #[.int .i64 (parseL s.data.toList).1, .bool (parseL s.data.toList).2.1], .int .i64 (parseL s.data.toList).2.2]) ∧ Below w.heap.size w w' := by
  have HF : Hid (parseL s.data.toList = if (Sat.read (sansBang s.data.toList)).2 = 0 then ((Sat.read (sansBang s.data.toList)).1, bang s.data.toList, 0) else (0, false, (Sat.read (sansBang s.data.toList)).2)) := rfl
  generalize parseL s.data.toList = R at *
  by_cases hp : 0 < s.size
  · have hb := bang_last s hp
    by_cases h33 : (((s[s.size - 1]).toNat : Int) == 33) = true
    · obtain ⟨D, hD⟩ : ∃ D, s.extract 0 (s.size - 1) = D := ⟨_, rfl⟩
      have hsb : sansBang s.data.toList = D.data.toList := by
        rw [← hD, Lib.extract_data]
        rw [h33] at hb
        obtain ⟨r, e1, e2⟩ := bang_split hb
        rw [e2, e1]
        have : s.size = r.length + 1 := by rw [size_list, e1]; simp
        rw [this]
        simp
      have hds : D.size ≤ s.size := by have a := sansBang_len s.data.toList; rw [hsb, ← size_list, ← size_list] at a; exact a
      rw [hsb, hb, h33] at HF
      clear hsb hb
      go_enter Tryz.func62, Tryz.ntmps62
      go_wp2_with fail
      refine (refRead_any D _ (by omega)).mono ?_
      rintro e w1 ⟨rfl, rfl⟩
      generalize Sat.read D.data.toList = r at *
      obtain ⟨rn, re⟩ := r
      by_cases h0 : re = 0
      · subst h0
        have hR : R = (rn, true, 0) := by rw [HF.out]; simp
        subst hR
        clear HF
        go_wp2
        exact bodyPost_ret (v := .tuple #[.agg #[.int .i64 rn, .bool true], .int .i64 0]) (by simp [results, Tryz.results62, go_sem]) rfl ⟨rfl, (Below.refl _ _).alloc (Nat.le_refl _) _⟩
      · have hR : R = (0, false, re) := by rw [HF.out]; simp [h0]
        have hne : (re != 0) = true := by simpa using h0
        subst hR
        clear HF h0
        go_wp2
        exact bodyPost_ret (v := .tuple #[.agg #[.int .i64 0, .bool false], .int .i64 re]) (by simp [results, Tryz.results62, go_sem]) rfl ⟨rfl, (Below.refl _ _).alloc (Nat.le_refl _) _⟩
    · have h33' : (((s[s.size - 1]).toNat : Int) == 33) = false := by simpa using h33
      rw [h33'] at hb
      rw [sans_no hb, hb] at HF
      clear h33 hb
      go_enter Tryz.func62, Tryz.ntmps62
      go_wp2_with fail
      refine (refRead_any s _ (by omega)).mono ?_
      rintro e w1 ⟨rfl, rfl⟩
      generalize Sat.read s.data.toList = r at *
      obtain ⟨rn, re⟩ := r
      by_cases h0 : re = 0
      · subst h0
        have hR : R = (rn, false, 0) := by rw [HF.out]; simp
        subst hR
        clear HF
        go_wp2
        exact bodyPost_ret (v := .tuple #[.agg #[.int .i64 rn, .bool false], .int .i64 0]) (by simp [results, Tryz.results62, go_sem]) rfl ⟨rfl, (Below.refl _ _).alloc (Nat.le_refl _) _⟩
      · have hR : R = (0, false, re) := by rw [HF.out]; simp [h0]
        have hne : (re != 0) = true := by simpa using h0
        subst hR
        clear HF h0
        go_wp2
        exact bodyPost_ret (v := .tuple #[.agg #[.int .i64 0, .bool false], .int .i64 re]) (by simp [results, Tryz.results62, go_sem]) rfl ⟨rfl, (Below.refl _ _).alloc (Nat.le_refl _) _⟩
  · have hz : s.size = 0 := by omega
    have hl : s.data.toList = [] := List.length_eq_zero_iff.1 (by rw [← size_list]; exact hz)
    have hb : bang s.data.toList = false := by rw [hl]; exact bang_nil
    rw [sans_no hb, hb] at HF
    clear hl hb hp
    go_enter Tryz.func62, Tryz.ntmps62
    go_wp2_with fail
    refine (refRead_any s _ (by omega)).mono ?_
    rintro e w1 ⟨rfl, rfl⟩
    generalize Sat.read s.data.toList = r at *
    obtain ⟨rn, re⟩ := r
    by_cases h0 : re = 0
    · subst h0
      have hR : R = (rn, false, 0) := by rw [HF.out]; simp
      subst hR
      clear HF
      go_wp2
      exact bodyPost_ret (v := .tuple #[.agg #[.int .i64 rn, .bool false], .int .i64 0]) (by simp [results, Tryz.results62, go_sem]) rfl ⟨rfl, (Below.refl _ _).alloc (Nat.le_refl _) _⟩
    · have hR : R = (0, false, re) := by rw [HF.out]; simp [h0]
      have hne : (re != 0) = true := by simpa using h0
      subst hR
      clear HF h0
      go_wp2
      exact bodyPost_ret (v := .tuple #[.agg #[.int .i64 0, .bool false], .int .i64 re]) (by simp [results, Tryz.results62, go_sem]) rfl ⟨rfl, (Below.refl _ _).alloc (Nat.le_refl _) _⟩
end Go.Proofs.YtehgpibngalhfaaGreatDoor.St
