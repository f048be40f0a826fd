/- Carried over from earlier layers: walks and lemmas. -/
import Derived.Test.YtidkpalckafgkaaGreatDoorA2
import Derived.Deep.RegionHeld3
namespace Go.Proofs.YtidkpalckafgkaaGreatDoor
open Go Go.RowKit Tg Pk
/-- A match that is asked, as a value. -/
def askV (m : Match) (v : ByteArray) (ok : Bool) : Value := .agg #[.int .i64 m.1, .string m.2.1, .string m.2.2, .string v, .bool ok]
set_option maxRecDepth 100000 in
set_option maxHeartbeats 1000000 in
theorem is_any (k : Int) (n x v : ByteArray) (ok : Bool) (W : World) :
    Calls Tryz.prog 229 #[.agg #[.int .i64 k, .string n, .string x, .string v, .bool ok]] W fun e w' => e = .returned (.bool (ok && eqB v x)) ∧ Below W.heap.size W w' := by
  have Q1 := Lib.hid (beq_ba v x)
  generalize eqB v x = q at *
  have q1 := Q1.out
  cases ok
  · go_enter Tryz.func229, Tryz.ntmps229
    go_wp2_with fail
    go_ret
    exact ⟨rfl, aBelow _ _⟩
  · go_enter Tryz.func229, Tryz.ntmps229
    go_wp2_with fail
    go_ret
    exact ⟨by simp, aBelow _ _⟩
theorem pfit1 (x v : ByteArray) (ok : Bool) : pfit 1 x v ok = (ok && eqB v x) := by unfold pfit; simp
theorem pfit2 (x v : ByteArray) (ok : Bool) : pfit 2 x v ok = !(ok && eqB v x) := by unfold pfit; simp
theorem pfit3 (x v : ByteArray) (ok : Bool) : pfit 3 x v ok = (ok && Lib.hasPrefix v.data.toList x.data.toList) := by unfold pfit; simp
theorem pfit4 (x v : ByteArray) (ok : Bool) : pfit 4 x v ok = ok := by unfold pfit; simp
theorem pfit5 (k : Int) (x v : ByteArray) (ok : Bool) (h1 : ¬ k = 1) (h2 : ¬ k = 2) (h3 : ¬ k = 3) (h4 : ¬ k = 4) : pfit k x v ok = false := by unfold pfit; simp [h1, h2, h3, h4]
set_option maxRecDepth 100000 in
set_option maxHeartbeats 1000000 in
theorem askFits_any (k : Int) (n x v : ByteArray) (ok : Bool) (W : World) :
    Calls Tryz.prog 204 #[.agg #[.int .i64 k, .string n, .string x, .string v, .bool ok]] W fun e w' => e = .returned (.bool (pfit k x v ok)) ∧ Below W.heap.size W w' := by
  have H1 := Lib.hid (fun k W => is_any k n x v ok W)
  have H2 := Lib.hid (fun W => Tryz.strings_HasPrefix v x W)
  rcases kinds k with rfl | rfl | rfl | rfl | ⟨k1, k2, k3, k4⟩
  · rw [pfit1]
    generalize (ok && eqB v x) = b at *
    go_enter Tryz.func204, Tryz.ntmps204
    go_wp2_with (first | (go_at_call 229; refine (H1.out _ _).mono ?_; rintro e w2 ⟨rfl, n2⟩))
    go_ret
    exact ⟨rfl, belowA n2⟩
  · rw [pfit2]
    generalize (ok && eqB v x) = b at *
    go_enter Tryz.func204, Tryz.ntmps204
    go_wp2_with (first | (go_at_call 229; refine (H1.out _ _).mono ?_; rintro e w2 ⟨rfl, n2⟩))
    go_ret
    exact ⟨rfl, belowA n2⟩
  · rw [pfit3]
    generalize Lib.hasPrefix v.data.toList x.data.toList = b at *
    cases ok
    · go_enter Tryz.func204, Tryz.ntmps204
      go_wp2_with fail
      go_ret
      exact ⟨rfl, aBelow _ _⟩
    · go_enter Tryz.func204, Tryz.ntmps204
      go_wp2_with (first | (go_at_call 230; refine (H2.out _).mono ?_; rintro e w2 ⟨rfl, rfl⟩))
      go_ret
      exact ⟨by simp, aBelow _ _⟩
  · rw [pfit4]
    go_enter Tryz.func204, Tryz.ntmps204
    go_wp2_with fail
    go_ret
    exact ⟨rfl, aBelow _ _⟩
  · rw [pfit5 k x v ok k1 k2 k3 k4]
    go_enter Tryz.func204, Tryz.ntmps204
    go_wp2_with fail
    go_ret
    exact ⟨rfl, aBelow _ _⟩
theorem keepF {W w2 : World} {b off : Nat} {x : Bool} (hb : Below W.heap.size W w2) (h : W.frozen? ⟨b, off, none⟩ = x) (hB : b < W.heap.size) : w2.frozen? ⟨b, off, none⟩ = x := by rw [hb.frozen (p := ⟨b, off, none⟩) hB]; exact h
set_option maxRecDepth 100000 in
set_option maxHeartbeats 1000000 in
theorem ask_any (m : Match) (t : Value) (l : List Tag) (w : World) (h : TRow w t l) (hn : l.length ≤ 1000000) :
    Calls Tryz.prog 203 #[.agg #[.int .i64 m.1, .string m.2.1, .string m.2.2], t] w fun e w' => e = .returned (askV m (find l m.2.1).1 (find l m.2.1).2) ∧ Below w.heap.size w w' := by
  have H1 := Lib.hid (fun w1 (n1 : Below w.heap.size w w1) => find_any t l m.2.1 w1 (h.on n1) hn)
  generalize find l m.2.1 = F at *
  obtain ⟨fv, fo⟩ := F
  obtain ⟨k, n, x⟩ := m
  dsimp only at *
  unfold askV
  dsimp only
  clear h hn
  go_enter Tryz.func203, Tryz.ntmps203
  go_wp2_with fail
  refine (H1.out _ (aBelow2 _ _ _)).mono ?_
  rintro e w2 ⟨rfl, n2⟩
  have b0 := newC (i := 0) (belowA n2)
  have b1 := newC (i := 1) (belowA n2)
  have b2 := newC (i := 2) (belowA n2)
  have hz : ∀ o, (w.alloc o).heap.size = w.heap.size + 1 := fun o => by simp
  have c0 := newC (i := 0) n2
  have c1 := newC (i := 1) n2
  have c2 := newC (i := 2) n2
  have c3 := newC (i := 3) n2
  have c4 := newC (i := 4) n2
  rw [hz] at c0 c1 c2 c3 c4
  simp at b0 b1 b2 c0 c1 c2 c3 c4
  have f0 := keepF (b := w.heap.size + 1) (off := 0) (x := false) n2 (by simp [go_sem]) (by simp)
  have f1 := keepF (b := w.heap.size + 1) (off := 1) (x := false) n2 (by simp [go_sem]) (by simp)
  have f2 := keepF (b := w.heap.size + 1) (off := 2) (x := false) n2 (by simp [go_sem]) (by simp)
  have f3 := keepF (b := w.heap.size + 1) (off := 3) (x := false) n2 (by simp [go_sem]) (by simp)
  have f4 := keepF (b := w.heap.size + 1) (off := 4) (x := false) n2 (by simp [go_sem]) (by simp)
  have d2 := belowA2 n2
  have z2 : w.heap.size + 1 < w2.heap.size := by have := n2.size; simp at this; omega
  clear n2 H1 hz
  go_wp2_with fail
  exact bodyPost_ret (v := .agg #[.int .i64 k, .string n, .string x, .string fv, .bool fo]) (by simp [results, Tryz.results203, go_sem, c0, c1, c2, c3, c4]) rfl ⟨rfl, ((((d2.setCell (by simp) _).setCell (by simp) _).setCell (by simp) _).setCell (by simp) _).setCell (by simp) _⟩
end Go.Proofs.YtidkpalckafgkaaGreatDoor
namespace Go.Proofs.YtidkpalckafgkaaGreatDoor
open Go Go.RowKit Tg Pk
theorem fits_next {t : List Tag} {l : List Match} {k : Nat} (hk : k < l.length) (h : pfits t (l.take k) = true) : pfits t (l.take (k + 1)) = pone t l[k] := by
  unfold pfits at h ⊢
  rw [List.take_succ_eq_append_getElem hk, List.all_append, h]
  simp
theorem fits_not {t : List Tag} {l : List Match} {k : Nat} (hk : k < l.length) (h : pone t l[k] = false) : pfits t l = false := by
  unfold pfits
  cases ha : l.all (pone t)
  · rfl
  · rw [List.all_eq_true.1 ha _ (List.getElem_mem hk)] at h
    cases h
set_option maxRecDepth 100000 in
set_option maxHeartbeats 1000000 in
theorem fitsM_any (tv v : Value) (t : List Tag) (l : List Match) (w : World) (ht : TRow w tv t) (h : MRow w v l) (hn : l.length ≤ 1000000) (hm : t.length ≤ 1000000) :
    Calls Tryz.prog 173 #[tv, v] w fun e w' => e = .returned (.bool (pfits t l)) ∧ Below w.heap.size w w' := by
  obtain ⟨a, c, rfl, hc, hl⟩ := h
  have HL := Lib.hid hl
  have HTR := Lib.hid ht
  clear hl ht
  obtain ⟨A, HA⟩ : ∃ A, Hid (pfits t l = A) := ⟨_, rfl⟩
  rw [HA.out]
  go_enter Tryz.func173, Tryz.ntmps173
  go_wp2
  go_loopw [9] (fun i wr => ∃ (k : Nat), k ≤ l.length ∧ i = .int .i64 k ∧ Hid (pfits t (l.take k) = true) ∧ Below w.heap.size w wr) (fun i _ => l.length - (intOf i).toNat)
  case atStart => exact ⟨0, Nat.zero_le _, rfl, rfl, Below.refl _ _⟩
  case round =>
    obtain ⟨k, hk, rfl, HT, hbl⟩ := hrel
    by_cases hlt : k < l.length
    · obtain ⟨b, o, rfl, hb, hL⟩ := HL.out (ne_of_lt hlt)
      obtain ⟨e0, e1, e2⟩ := (hL.on hb hbl) k hlt
      have i1 : (k : Int) < (l.length : Int) := by omega
      have i2 : (0 : Int) ≤ (k : Int) := by omega
      have HN : Hid (pone t l[k] = true → pfits t (l.take (k + 1)) = true) := fun h => by rw [fits_next hlt HT.out]; exact h
      have HF : Hid (pone t l[k] = false → A = false) := fun h => by
        show A = false
        rw [← HA.out]
        exact fits_not hlt h
      have hz := hbl.size
      have hrow := fun o => HTR.out.on (hbl.alloc hz o)
      have H1 := Lib.hid (fun o => ask_any l[k] tv t _ (hrow o) hm)
      generalize l[k] = x at *
      have H2 := Lib.hid (fun W => askFits_any x.1 x.2.1 x.2.2 (find t x.2.1).1 (find t x.2.1).2 W)
      rw [show pfit x.1 x.2.2 (find t x.2.1).1 (find t x.2.1).2 = pone t x from rfl] at H2
      generalize pone t x = p at *
      generalize find t x.2.1 = F at *
      clear hL hb HL HT hrow HTR
      cases p
      · have HF2 := Lib.hid (HF.out rfl)
        clear HF HN
        go_wp2_with fail
        refine (H1.out _).mono ?_
        rintro e w2 ⟨rfl, n2⟩
        have d2 := (hbl.alloc hz _).trans (n2.mono (by simp; omega))
        clear n2
        unfold askV
        go_wp2_with fail
        refine (H2.out _).mono ?_
        rintro e w3 ⟨rfl, n3⟩
        have d3 := d2.trans (n3.mono d2.size)
        go_wp2_with fail
        go_ret
        exact ⟨ret_bool (HF2.out).symm, d3⟩
      · have HN2 := Lib.hid (HN.out rfl)
        clear HF HN
        go_wp2_with fail
        refine (H1.out _).mono ?_
        rintro e w2 ⟨rfl, n2⟩
        have d2 := (hbl.alloc hz _).trans (n2.mono (by simp; omega))
        clear n2
        unfold askV
        go_wp2_with fail
        refine (H2.out _).mono ?_
        rintro e w3 ⟨rfl, n3⟩
        have d3 := d2.trans (n3.mono d2.size)
        go_wp2_with fail
        exact ⟨⟨k + 1, by omega, by go_num, HN2, d3⟩, by simp [intOf]; omega⟩
    · have HE : Hid (A = true) := by
        have h1 := HT.out
        rw [List.take_of_length_le (by omega)] at h1
        show A = true
        rw [← HA.out]
        exact h1
      go_wp2_with fail
      go_ret
      exact ⟨ret_bool (HE.out).symm, hbl⟩
theorem prefix_ext (v x : ByteArray) : ((v.extract 0 x.size).toList == x.toList) = Lib.hasPrefix v.data.toList x.data.toList := by
  rw [ByteArray.toList_eq, ByteArray.toList_eq, ext_lst, Nat.sub_zero, List.drop_zero, size_list x]
  unfold Lib.hasPrefix
  rw [Bool.eq_iff_iff, beq_iff_eq, List.isPrefixOf_iff_prefix]
  constructor
  · intro h
    have h2 := List.take_prefix x.data.toList.length v.data.toList
    rw [h] at h2
    exact h2
  · rintro ⟨t, ht⟩
    rw [← ht]
    simp
theorem prefix_long (v x : ByteArray) (h : v.size < x.size) : Lib.hasPrefix v.data.toList x.data.toList = false := by
  unfold Lib.hasPrefix
  cases hp : x.data.toList.isPrefixOf v.data.toList
  · rfl
  · rw [List.isPrefixOf_iff_prefix] at hp
    have := hp.length_le
    rw [← size_list, ← size_list] at this
    omega
set_option maxRecDepth 100000 in
set_option maxHeartbeats 2000000 in
theorem refOne_any (tv : Value) (t : List Tag) (m : Match) (w : World) (ht : TRow w tv t) (hm : t.length ≤ 1000000) (hz : ∀ y ∈ t, y.1.size ≤ 281474976710656 ∧ y.2.size ≤ 281474976710656) (hs : m.2.2.size ≤ 281474976710656) :
    Calls Tryz.prog 142 #[tv, .agg #[.int .i64 m.1, .string m.2.1, .string m.2.2]] w fun e w' => e = .returned (.bool (pone t m)) ∧ Below w.heap.size w w' := by
  have H1 := Lib.hid (fun o => refFind_any tv t m.2.1 (w.alloc o) (ht.on (aBelow _ _)) hm)
  have hfz : (find t m.2.1).1.size ≤ 281474976710656 := by
    unfold find
    cases hf : t.find? fun y => eqB y.1 m.2.1 with
    | none => exact Nat.zero_le _
    | some y => exact (hz y (List.mem_of_find?_eq_some hf)).2
  rw [show pone t m = pfit m.1 m.2.2 (find t m.2.1).1 (find t m.2.1).2 from rfl]
  generalize find t m.2.1 = F at *
  obtain ⟨v, ok⟩ := F
  obtain ⟨k, n, x⟩ := m
  dsimp only at *
  have Q1 := Lib.hid (beq_ba v x)
  clear hz ht
  rcases kinds k with rfl | rfl | rfl | rfl | ⟨k1, k2, k3, k4⟩
  · rw [pfit1]
    generalize eqB v x = q at *
    have q1 := Q1.out
    cases ok
    · go_enter Tryz.func142, Tryz.ntmps142
      go_wp2_with (first | (go_at_call 181; refine (H1.out _).mono ?_; rintro e w2 ⟨rfl, rfl⟩))
      go_ret
      exact ⟨rfl, aBelow _ _⟩
    · go_enter Tryz.func142, Tryz.ntmps142
      go_wp2_with (first | (go_at_call 181; refine (H1.out _).mono ?_; rintro e w2 ⟨rfl, rfl⟩))
      go_ret
      exact ⟨by simp, aBelow _ _⟩
  · rw [pfit2]
    generalize eqB v x = q at *
    have q1 := Q1.out
    cases ok
    · go_enter Tryz.func142, Tryz.ntmps142
      go_wp2_with (first | (go_at_call 181; refine (H1.out _).mono ?_; rintro e w2 ⟨rfl, rfl⟩))
      go_ret
      exact ⟨rfl, aBelow _ _⟩
    · go_enter Tryz.func142, Tryz.ntmps142
      go_wp2_with (first | (go_at_call 181; refine (H1.out _).mono ?_; rintro e w2 ⟨rfl, rfl⟩))
      go_ret
      exact ⟨by simp, aBelow _ _⟩
  · rw [pfit3]
    cases ok
    · go_enter Tryz.func142, Tryz.ntmps142
      go_wp2_with (first | (go_at_call 181; refine (H1.out _).mono ?_; rintro e w2 ⟨rfl, rfl⟩))
      go_quiet (fail)
      go_wp2_with fail
      go_ret
      exact ⟨rfl, below_drewN (aBelow _ _) _⟩
    · by_cases hl : x.size ≤ v.size
      · have HQ := Lib.hid (prefix_ext v x)
        generalize Lib.hasPrefix v.data.toList x.data.toList = q at *
        have q2 := HQ.out
        have i1 : (x.size : Int) ≤ (v.size : Int) := by omega
        have i2 : (0 : Int) ≤ (x.size : Int) := by omega
        go_enter Tryz.func142, Tryz.ntmps142
        go_wp2_with (first | (go_at_call 181; refine (H1.out _).mono ?_; rintro e w2 ⟨rfl, rfl⟩))
        go_quiet (fail)
        go_wp2_with fail
        go_ret
        exact ⟨by simp, below_drewN (aBelow _ _) _⟩
      · rw [prefix_long v x (by omega)]
        have i1 : ¬ (x.size : Int) ≤ (v.size : Int) := by omega
        go_enter Tryz.func142, Tryz.ntmps142
        go_wp2_with (first | (go_at_call 181; refine (H1.out _).mono ?_; rintro e w2 ⟨rfl, rfl⟩))
        go_quiet (fail)
        go_wp2_with fail
        go_ret
        exact ⟨by simp, below_drewN (aBelow _ _) _⟩
  · rw [pfit4]
    go_enter Tryz.func142, Tryz.ntmps142
    go_wp2_with (first | (go_at_call 181; refine (H1.out _).mono ?_; rintro e w2 ⟨rfl, rfl⟩))
    go_ret
    exact ⟨rfl, aBelow _ _⟩
  · rw [pfit5 k x v ok k1 k2 k3 k4]
    go_enter Tryz.func142, Tryz.ntmps142
    go_wp2_with (first | (go_at_call 181; refine (H1.out _).mono ?_; rintro e w2 ⟨rfl, rfl⟩))
    go_ret
    exact ⟨rfl, aBelow _ _⟩
set_option maxRecDepth 100000 in
set_option maxHeartbeats 1000000 in
theorem refFitsM_any (tv v : Value) (t : List Tag) (l : List Match) (w : World) (ht : TRow w tv t) (h : MRow w v l) (hn : l.length ≤ 1000000) (hm : t.length ≤ 1000000) (hz : ∀ y ∈ t, y.1.size ≤ 281474976710656 ∧ y.2.size ≤ 281474976710656) (hs : ∀ x ∈ l, x.2.1.size ≤ 281474976710656 ∧ x.2.2.size ≤ 281474976710656) :
    Calls Tryz.prog 92 #[tv, v] w fun e w' => e = .returned (.bool (pfits t l)) ∧ Below w.heap.size w w' := by
  obtain ⟨a, c, rfl, hc, hl⟩ := h
  have HL := Lib.hid hl
  have HTR := Lib.hid ht
  have HS := Lib.hid hs
  have HZ := Lib.hid hz
  clear hl ht hs hz
  obtain ⟨A, HA⟩ : ∃ A, Hid (pfits t l = A) := ⟨_, rfl⟩
  rw [HA.out]
  go_enter Tryz.func92, Tryz.ntmps92
  go_wp2
  go_loopw [5] (fun i wr => ∃ (k : Nat), k ≤ l.length ∧ i = .int .i64 k ∧ Hid (pfits t (l.take k) = true) ∧ Below w.heap.size w wr) (fun i _ => l.length - (intOf i).toNat)
  case atStart => exact ⟨0, Nat.zero_le _, rfl, rfl, Below.refl _ _⟩
  case round =>
    obtain ⟨k, hk, rfl, HT, hbl⟩ := hrel
    by_cases hlt : k < l.length
    · obtain ⟨b, o, rfl, hb, hL⟩ := HL.out (ne_of_lt hlt)
      obtain ⟨e0, e1, e2⟩ := (hL.on hb hbl) k hlt
      have i1 : (k : Int) < (l.length : Int) := by omega
      have i2 : (0 : Int) ≤ (k : Int) := by omega
      have HN : Hid (pone t l[k] = true → pfits t (l.take (k + 1)) = true) := fun h => by rw [fits_next hlt HT.out]; exact h
      have HF : Hid (pone t l[k] = false → A = false) := fun h => by
        show A = false
        rw [← HA.out]
        exact fits_not hlt h
      have H1 := Lib.hid (refOne_any tv t l[k] _ (HTR.out.on hbl) hm HZ.out (HS.out _ (List.getElem_mem hlt)).2)
      generalize l[k] = x at *
      generalize pone t x = p at *
      clear hL hb HL HT HTR HS HZ
      cases p
      · have HF2 := Lib.hid (HF.out rfl)
        clear HF HN
        go_wp2_with (first | (go_at_call 142; refine (H1.out).mono ?_; rintro e w2 ⟨rfl, n2⟩))
        go_ret
        exact ⟨ret_bool (HF2.out).symm, hbl.trans (n2.mono hbl.size)⟩
      · have HN2 := Lib.hid (HN.out rfl)
        clear HF HN
        go_wp2_with (first | (go_at_call 142; refine (H1.out).mono ?_; rintro e w2 ⟨rfl, n2⟩))
        exact ⟨⟨k + 1, by omega, by go_num, HN2, hbl.trans (n2.mono hbl.size)⟩, by simp [intOf]; omega⟩
    · have HE : Hid (A = true) := by
        have h1 := HT.out
        rw [List.take_of_length_le (by omega)] at h1
        show A = true
        rw [← HA.out]
        exact h1
      go_wp2_with fail
      go_ret
      exact ⟨ret_bool (HE.out).symm, hbl⟩
end Go.Proofs.YtidkpalckafgkaaGreatDoor
namespace Go.Proofs.YtidkpalckafgkaaGreatDoor
open Go Go.RowKit Tg Pk
open Go Go.RowKit Tg Pk
def matV (m : Match) : Value := .agg #[.int .i64 m.1, .string m.2.1, .string m.2.2]
theorem pread_not {p : List UInt8} {q : List UInt8 × List UInt8} (h : cutAt [33, 61] p = some q) : pread p = (2, bb q.1, bb q.2) := by unfold pread; rw [h]
theorem pread_has {p : List UInt8} (h : cutAt [33, 61] p = none) (h2 : cutAt [61] p = none) : pread p = (4, bb p, bb []) := by unfold pread; rw [h, h2]
theorem pread_pre {p : List UInt8} {q : List UInt8 × List UInt8} (h : cutAt [33, 61] p = none) (h2 : cutAt [61] p = some q) (h3 : Lib.hasSuffix q.2 [42] = true) : pread p = (3, bb q.1, bb (Lib.trimSuffix q.2 [42])) := by unfold pread; rw [h, h2]; simp only [h3, if_true]
theorem pread_is {p : List UInt8} {q : List UInt8 × List UInt8} (h : cutAt [33, 61] p = none) (h2 : cutAt [61] p = some q) (h3 : Lib.hasSuffix q.2 [42] = false) : pread p = (1, bb q.1, bb q.2) := by unfold pread; rw [h, h2]; simp only [h3, Bool.false_eq_true, if_false]
theorem Env.drewN {w : World} (h : Env w) (n : Nat) : Env (w.drewN n) := h
theorem d3 (w : World) (o : Obj) (n : Nat) (x y z : Value) : Below w.heap.size w (((((w.alloc o).drewN n).setCell ⟨w.heap.size, 0, none⟩ x).setCell ⟨w.heap.size, 1, none⟩ y).setCell ⟨w.heap.size, 2, none⟩ z) :=
  (((below_drewN (aBelow _ _) n).setCell (p := ⟨w.heap.size, 0, none⟩) (Nat.le_refl _) _).setCell (p := ⟨w.heap.size, 1, none⟩) (Nat.le_refl _) _).setCell (p := ⟨w.heap.size, 2, none⟩) (Nat.le_refl _) _
theorem cut_index {sep L : List UInt8} {q : List UInt8 × List UInt8} (hs : sep ≠ []) (h : cutAt sep L = some q) : ∃ j : Nat, Lib.index L sep = (j : Int) ∧ q = (L.take j, L.drop (j + sep.length)) ∧ j + sep.length ≤ L.length := by
  have h1 := cutAt_eq sep hs L
  rw [h] at h1
  unfold Lib.cut at h1
  by_cases h0 : 0 ≤ Lib.index L sep
  · rw [if_pos h0] at h1
    have hr := Lib.index_room L sep h0
    refine ⟨(Lib.index L sep).toNat, by omega, ?_, by omega⟩
    simp only [Prod.mk.injEq, and_true] at h1
    exact Prod.ext h1.1.symm h1.2.symm
  · rw [if_neg h0] at h1
    simp at h1
theorem cut_index_no {sep L : List UInt8} (hs : sep ≠ []) (h : cutAt sep L = none) : Lib.index L sep = -1 := by
  have h1 := cutAt_eq sep hs L
  rw [h] at h1
  unfold Lib.cut at h1
  have hg := Lib.index_ge L sep
  by_cases h0 : 0 ≤ Lib.index L sep
  · rw [if_pos h0] at h1
    simp at h1
  · omega
theorem ext_head (s : ByteArray) (j : Nat) : s.extract 0 j = bb (s.data.toList.take j) := by
  apply bb_inj
  rw [ext_lst, bb_list]
  simp
theorem ext_tail (s : ByteArray) (j : Nat) : s.extract j s.size = bb (s.data.toList.drop j) := by
  apply bb_inj
  rw [ext_lst, bb_list, List.take_of_length_le]
  rw [List.length_drop, ← size_list]
  exact Nat.le_refl _
theorem suffix_snoc (t : List UInt8) (x : UInt8) : Lib.hasSuffix (t ++ [x]) [42] = decide (x = 42) := by
  unfold Lib.hasSuffix
  rw [Bool.eq_iff_iff, List.isSuffixOf_iff_suffix, decide_eq_true_eq]
  constructor
  · rintro ⟨y, hy⟩
    have := (List.append_inj' hy rfl).2
    simp at this
    exact this.symm
  · rintro rfl
    exact List.suffix_append _ _
theorem star_yes {L a v : List UInt8} (h : L = a ++ 61 :: v) (hv : Lib.hasSuffix v [42] = true) : L[L.length - 1]? = some 42 ∧ Lib.trimSuffix v [42] = (L.drop (a.length + 1)).take (L.length - 1 - (a.length + 1)) ∧ a.length + 1 ≤ L.length - 1 := by
  have hd := suffix_drop hv
  generalize Lib.trimSuffix v [42] = t at *
  subst hd
  subst h
  refine ⟨?_, ?_, ?_⟩
  · rw [show a ++ 61 :: (t ++ [42]) = (a ++ 61 :: t) ++ [42] from by simp]
    rw [List.length_append, List.length_singleton, Nat.add_sub_cancel, List.getElem?_append_right (Nat.le_refl _)]
    simp
  · rw [show a ++ 61 :: (t ++ [42]) = (a ++ [61]) ++ (t ++ [42]) from by simp, List.drop_append_of_le_length (by simp)]
    rw [List.drop_of_length_le (by simp)]
    simp
    rw [show a.length + (t.length + 1) - (a.length + 1) = t.length from by omega]
    simp
  · simp
theorem star_no {L a v : List UInt8} (h : L = a ++ 61 :: v) (hv : Lib.hasSuffix v [42] = false) : L[L.length - 1]? ≠ some 42 := by
  rcases List.eq_nil_or_concat v with h0 | ⟨t, x, h0⟩
  · subst h0
    subst h
    rw [List.length_append, List.length_singleton, Nat.add_sub_cancel, List.getElem?_append_right (Nat.le_refl _)]
    simp
  · rw [List.concat_eq_append] at h0
    subst h0
    rw [suffix_snoc] at hv
    subst h
    rw [show a ++ 61 :: (t ++ [x]) = (a ++ 61 :: t) ++ [x] from by simp]
    rw [List.length_append, List.length_singleton, Nat.add_sub_cancel, List.getElem?_append_right (Nat.le_refl _)]
    simp at hv ⊢
    exact hv
theorem byteNe {a : UInt8} {n : Nat} (hn : n < 256) (h : a ≠ UInt8.ofNat n) : ((a.toNat : Int) == (n : Int)) = false := by
  simp only [beq_eq_false_iff_ne, ne_eq]
  intro e
  apply h
  apply UInt8.toNat_inj.1
  rw [UInt8.toNat_ofNat']
  omega
theorem last_at (s : ByteArray) (h : s.size - 1 < s.size) (x : UInt8) : s.data.toList[s.data.toList.length - 1]? = some x ↔ s[s.size - 1] = x := by
  rw [← size_list]
  rw [List.getElem?_eq_getElem (by rw [← size_list]; exact h)]
  constructor
  · intro h; exact Option.some.inj h
  · intro h; exact congrArg some h
set_option maxRecDepth 100000 in
set_option maxHeartbeats 2000000 in
theorem refPart_any (s : ByteArray) (w : World) (hs : s.size ≤ 100000) :
    Calls Tryz.prog 98 #[.string s] w fun e w' => e = .returned (matV (pread s.data.toList)) ∧ Below w.heap.size w w' := by
  have H1 := Lib.hid (fun W => refFindAt_any s (bb [33, 61]) W (by omega) (by decide) (by decide))
  have H2 := Lib.hid (fun W => refFindAt_any s (bb [61]) W (by omega) (by decide) (by decide))
  rw [bb_list] at H1 H2
  have hsl := size_list s
  cases h2 : cutAt [33, 61] s.data.toList with
  | some q =>
    rw [pread_not h2]
    obtain ⟨j, hj, hq, hr⟩ := cut_index (by simp) h2
    rw [hj] at H1
    have e1 : bb q.1 = s.extract 0 j := by rw [hq, ext_head]
    have e2 : bb q.2 = s.extract (j + 2) s.size := by rw [hq, ext_tail]; rfl
    have hr2 : j + 2 ≤ s.size := by rw [hsl]; exact hr
    unfold matV
    dsimp only
    rw [e1, e2]
    clear e1 e2 hq hj h2 H2 hr hsl
    have i1 : (0 : Int) ≤ (j : Int) := by omega
    have i2 : (j : Int) ≤ (s.size : Int) := by omega
    have i3 : (j : Int) + 2 ≤ (s.size : Int) := by omega
    have i4 : ((j : Int) + 2).toNat = j + 2 := by omega
    have i5 : (0 : Int) ≤ (j : Int) + 2 := by omega
    have i6 : IntKind.i64.wrap ((j : Int) + 2) = (j : Int) + 2 := by rw [IntKind.wrap_i64]; omega
    go_enter Tryz.func98, Tryz.ntmps98
    go_wp2_with (first | (go_at_call 144; refine (H1.out _).mono ?_; rintro e w2 ⟨rfl, rfl⟩))
    go_region_with (fail)
    go_wp2_with fail
    exact bodyPost_ret (v := .agg #[.int .i64 2, .string (s.extract 0 j), .string (s.extract (j + 2) s.size)]) (by simp [results, Tryz.results98, go_sem]) rfl ⟨rfl, (aBelow _ _).drew⟩
  | none =>
    rw [cut_index_no (by simp) h2] at H1
    cases h1 : cutAt [61] s.data.toList with
    | none =>
      rw [pread_has h2 h1, bb_eq]
      rw [cut_index_no (by simp) h1] at H2
      clear h1 h2 hsl
      unfold matV
      dsimp only
      go_enter Tryz.func98, Tryz.ntmps98
      go_wp2_with fail
      refine (H1.out _).mono ?_
      rintro e w2 ⟨rfl, rfl⟩
      go_wp2_with fail
      refine (H2.out _).mono ?_
      rintro e w2 ⟨rfl, rfl⟩
      go_wp2_with fail
      exact bodyPost_ret (v := .agg #[.int .i64 4, .string s, .string ⟨#[]⟩]) (by simp [results, Tryz.results98, go_sem]) rfl ⟨rfl, aBelow _ _⟩
    | some q =>
      obtain ⟨j, hj, hq, hr⟩ := cut_index (by simp) h1
      rw [hj] at H2
      have hL := cutAt_some _ _ _ h1
      have hL : s.data.toList = q.1 ++ 61 :: q.2 := hL
      have hja : q.1.length = j := by
        rw [hq]
        show (s.data.toList.take j).length = j
        rw [List.length_take]
        simp at hr
        rw [Nat.min_eq_left]
        simp
        omega
      have e1 : bb q.1 = s.extract 0 j := by rw [hq, ext_head]
      have hr2 : j + 1 ≤ s.size := by rw [hsl]; exact hr
      have hz : s.size - 1 < s.size := by omega
      have hla := last_at s hz 42
      have j1 : ((s.size : Int) - 1) = ((s.size - 1 : Nat) : Int) := by omega
      have i1 : (0 : Int) ≤ (j : Int) := by omega
      have i2 : (j : Int) ≤ (s.size : Int) := by omega
      have i4 : ((j : Int) + 1).toNat = j + 1 := by omega
      have i5 : (0 : Int) ≤ (j : Int) + 1 := by omega
      have i6 : IntKind.i64.wrap ((j : Int) + 1) = (j : Int) + 1 := by rw [IntKind.wrap_i64]; omega
      have i7 : (j : Int) + 1 ≤ (s.size : Int) := by omega
      cases h3 : Lib.hasSuffix q.2 [42]
      · rw [pread_is h2 h1 h3]
        have e2 : bb q.2 = s.extract (j + 1) s.size := by rw [hq, ext_tail]; rfl
        have hl := star_no hL h3
        have hn : s[s.size - 1] ≠ 42 := fun e => hl (hla.2 e)
        have hb : (((s[s.size - 1]).toNat : Int) == 42) = false := byteNe (n := 42) (by omega) hn
        unfold matV
        dsimp only
        rw [e1, e2]
        clear e1 e2 hl hn h3 h1 h2 hja hL hq hj hsl hla hr
        go_enter Tryz.func98, Tryz.ntmps98
        go_wp2_with fail
        refine (H1.out _).mono ?_
        rintro e w2 ⟨rfl, rfl⟩
        go_wp2_with fail
        refine (H2.out _).mono ?_
        rintro e w2 ⟨rfl, rfl⟩
        go_wp2_with fail
        go_region_with (fail)
        go_wp2_with fail
        exact bodyPost_ret (v := .agg #[.int .i64 1, .string (s.extract 0 j), .string (s.extract (j + 1) s.size)]) (by simp [results, Tryz.results98, go_sem]) rfl ⟨rfl, (aBelow _ _).drew⟩
      · rw [pread_pre h2 h1 h3]
        obtain ⟨s1, s2, s3⟩ := star_yes hL h3
        rw [hja, ← hsl] at s2 s3
        have e2 : bb (Lib.trimSuffix q.2 [42]) = s.extract (j + 1) (s.size - 1) := by
          apply bb_inj
          rw [bb_list, ext_lst, s2]
        have hn : s[s.size - 1] = 42 := hla.1 s1
        have hb : (((s[s.size - 1]).toNat : Int) == 42) = true := by rw [hn]; rfl
        have i8 : (j : Int) + 1 ≤ (s.size : Int) - 1 := by omega
        have i9 : ((s.size : Int) - 1).toNat = s.size - 1 := by omega
        unfold matV
        dsimp only
        rw [e1, e2]
        clear e1 e2 hn h3 h1 h2 hja hL hq hj hsl hla hr s1 s2
        go_enter Tryz.func98, Tryz.ntmps98
        go_wp2_with fail
        refine (H1.out _).mono ?_
        rintro e w2 ⟨rfl, rfl⟩
        go_wp2_with fail
        refine (H2.out _).mono ?_
        rintro e w2 ⟨rfl, rfl⟩
        go_wp2_with fail
        clear j1
        have k1 : IntKind.i64.wrap ((s.size : Int) - 1) = (s.size : Int) - 1 := by rw [IntKind.wrap_i64]; omega
        have k2 : (s.size : Int) - 1 ≤ (s.size : Int) := by omega
        have k3 : (0 : Int) ≤ (s.size : Int) - 1 := by omega
        have k4 : ((s.size - 1 : Nat) : Int) = (s.size : Int) - 1 := by omega
        go_region_with (fail)
        go_wp2_with fail
        exact bodyPost_ret (v := .agg #[.int .i64 3, .string (s.extract 0 j), .string (s.extract (j + 1) (s.size - 1))]) (by simp [results, Tryz.results98, go_sem]) rfl ⟨rfl, (aBelow _ _).drew⟩
end Go.Proofs.YtidkpalckafgkaaGreatDoor
namespace Go.Proofs.YtidkpalckafgkaaGreatDoor
open Go Go.RowKit Tg Pk
def flatM (l : List Match) : List Value := l.flatMap fun x => [.int .i64 x.1, .string x.2.1, .string x.2.2]
theorem flatM_at (l : List Match) : ∀ (i : Nat) (h : i < l.length), (flatM l)[i * 3]? = some (.int .i64 (l[i]).1) ∧ (flatM l)[i * 3 + 1]? = some (.string (l[i]).2.1) ∧ (flatM l)[i * 3 + 2]? = some (.string (l[i]).2.2) := by
  induction l with
  | nil => intro i h; cases h
  | cons x r ih =>
    intro i h
    cases i with
    | zero => exact ⟨rfl, rfl, rfl⟩
    | succ i =>
      have h' : i < r.length := by simpa using h
      obtain ⟨h0, h1, h2⟩ := ih i h'
      have e : flatM (x :: r) = .int .i64 x.1 :: .string x.2.1 :: .string x.2.2 :: flatM r := rfl
      rw [e]
      refine ⟨?_, ?_, ?_⟩
      · rw [show (i + 1) * 3 = i * 3 + 1 + 1 + 1 from by omega]
        simp only [List.getElem?_cons_succ, List.getElem_cons_succ]
        exact h0
      · rw [show (i + 1) * 3 + 1 = i * 3 + 1 + 1 + 1 + 1 from by omega]
        simp only [List.getElem?_cons_succ, List.getElem_cons_succ]
        exact h1
      · rw [show (i + 1) * 3 + 2 = i * 3 + 2 + 1 + 1 + 1 from by omega]
        simp only [List.getElem?_cons_succ, List.getElem_cons_succ]
        exact h2
theorem flatM_append (l m : List Match) : flatM (l ++ m) = flatM l ++ flatM m := by simp [flatM]
abbrev OwnM (w : World) (base : Nat) (v : Value) (l : List Match) : Prop := w.ownsRow base 118 3 v l.length (flatM l)
theorem ownM_row {w : World} {base : Nat} {v : Value} {l : List Match} (h : OwnM w base v l) : MRow w v l := by
  rcases h.2 with ⟨h0, h1⟩ | ⟨g, cap, cur, hv, hb, hg, hc, _, hcur, ht⟩
  · have hl : l = [] := List.length_eq_zero_iff.1 h1
    subst hl
    exact ⟨none, 0, h0, Nat.le_refl _, fun hne => absurd rfl hne⟩
  · refine ⟨_, cap, hv, hc, fun _ => ⟨g, 0, rfl, ?_, ?_⟩⟩
    · rcases Nat.lt_or_ge g w.heap.size with hlt | hge
      · exact hlt
      · rw [Array.getElem?_eq_none hge] at hg; cases hg
    · intro i hi
      obtain ⟨f0, f1, f2⟩ := flatM_at l i hi
      have hcell : ∀ j, w.cell? ⟨g, j, none⟩ = cur[j]? := fun j => cell_of_row w g j cur 118 (0, 0) hg
      rw [← ht, List.getElem?_take] at f0 f1 f2
      rw [hcell, hcell, hcell]
      rw [if_pos (by omega)] at f0 f1 f2
      simp only [Array.getElem?_toList] at f0 f1 f2
      rw [Nat.zero_add]
      exact ⟨f0, f1, f2⟩
set_option maxRecDepth 100000 in
set_option maxRecDepth 100000 in
theorem info39 : ∃ i, Tryz.prog.info? 118 = some i ∧ i.zero = some (.agg #[.int .i64 0, .string ⟨#[]⟩, .string ⟨#[]⟩]) ∧ i.size = 3 ∧ i.bytes = 40 := ⟨_, rfl, rfl, rfl, rfl⟩
theorem new1M (w : World) (k : Int) (n v : ByteArray) : ∀ j u, [Value.int .i64 k, Value.string n, Value.string v][j]? = some u → (w.alloc (.cells #[.int .i64 k, .string n, .string v] 118)).cell? ((⟨w.heap.size, 0, none⟩ : Addr).add j) = some u := by
  intro j u h
  match j, h with
  | 0, h => simp at h; subst h; simp [Addr.add]
  | 1, h => simp at h; subst h; simp [Addr.add]
  | 2, h => simp at h; subst h; simp [Addr.add]
  | j + 3, h => simp at h
theorem one1M (k : Int) (n v : ByteArray) : ∀ u ∈ [Value.int .i64 k, Value.string n, Value.string v], u.oneCell' = true := by
  intro u hu
  simp at hu
  rcases hu with rfl | rfl | rfl <;> rfl
theorem ownM_next {w' : World} {base : Nat} {v' : Value} {l : List Match} {x : Match} (h : w'.ownsRow base 118 3 v' (l.length + 1) (flatM l ++ [Value.int .i64 x.1, Value.string x.2.1, Value.string x.2.2])) : OwnM w' base v' (l ++ [x]) := by
  show w'.ownsRow base 118 3 v' (l ++ [x]).length (flatM (l ++ [x]))
  rw [flatM_append]
  simpa [flatM] using h
/-- What an append of one match leaves. -/
theorem ownM_below {w W w' : World} {base : Nat} {v : Value} {l : List Match} {o : Obj} (hd : Below base w W) (hb : base ≤ W.heap.size) (h : OwnM W base v l) (hg : (W.alloc o).grownBy w' v.ownBlock) : Below base w w' :=
  (hd.alloc hb _).grown hg (by simp; omega) (fun k hk => (h.lt k hk).1)
theorem ownM_nil (w : World) (base : Nat) : OwnM w base (.slice none 0 0) [] := World.ownsRow_nil _ _ _ _
/-- The matches of the first k parts. -/
def readk (P : List (List UInt8)) (k : Nat) : List Match := (P.take k).map pread
theorem readk_next {P : List (List UInt8)} {k : Nat} (hk : k < P.length) : readk P (k + 1) = readk P k ++ [pread P[k]] := by
  unfold readk
  rw [List.take_succ_eq_append_getElem hk, List.map_append]
  rfl
theorem readk_len (P : List (List UInt8)) (k : Nat) : (readk P k).length ≤ P.length := by
  unfold readk
  rw [List.length_map]
  exact List.length_take_le' _ _
theorem readk_all {P : List (List UInt8)} {k : Nat} (hk : ¬ k < P.length) : readk P k = P.map pread := by
  unfold readk
  rw [List.take_of_length_le (by omega)]
theorem pparse_nil {s : List UInt8} (h : s = []) : pparse s = ([], 0) := by unfold pparse; rw [if_pos h]
theorem pparse_form {s : List UInt8} (h : ¬ s = []) (h1 : ((Word.parts 44 s).map pread).all pmay = false) : pparse s = ([], 2) := by unfold pparse; rw [if_neg h, h1]; rfl
theorem pparse_many {s : List UInt8} (h : ¬ s = []) (h1 : ((Word.parts 44 s).map pread).all pmay = true) (h2 : ¬ (Word.parts 44 s).length ≤ 4) : pparse s = ([], 4) := by unfold pparse; rw [if_neg h, h1, if_pos rfl, if_neg h2]
theorem pparse_is {s : List UInt8} (h : ¬ s = []) (h1 : ((Word.parts 44 s).map pread).all pmay = true) (h2 : (Word.parts 44 s).length ≤ 4) : pparse s = ((Word.parts 44 s).map pread, 0) := by unfold pparse; rw [if_neg h, h1, if_pos rfl, if_pos h2]
end Go.Proofs.YtidkpalckafgkaaGreatDoor
namespace Go.Proofs.YtidkpalckafgkaaGreatDoor
open Go Go.RowKit Tg Pk
theorem may_not {P : List (List UInt8)} {k : Nat} (hk : k < P.length) (h : pmay (pread P[k]) = false) : (P.map pread).all pmay = false := by
  cases ha : (P.map pread).all pmay
  · rfl
  · rw [List.all_eq_true.1 ha _ (List.mem_map.2 ⟨_, List.getElem_mem hk, rfl⟩)] at h
    cases h
theorem may_next {P : List (List UInt8)} {k : Nat} (hk : k < P.length) (h : pmay (pread P[k]) = true) (ha : (readk P k).all pmay = true) : (readk P (k + 1)).all pmay = true := by
  rw [readk_next hk, List.all_append, ha]
  simp [h]
set_option maxRecDepth 100000 in
set_option maxHeartbeats 1000000 in
theorem refParseM_any (s : ByteArray) (w : World) (hs : s.size ≤ 900) :
    Calls Tryz.prog 61 #[.string s] w fun e w' => (∃ v', e = .returned (.tuple #[v', .int .i64 (pparse s.data.toList).2]) ∧ MRow w' v' (pparse s.data.toList).1) ∧ Below w.heap.size w w' := by
  obtain ⟨C, HC⟩ : ∃ C, Hid (pparse s.data.toList = C) := ⟨_, rfl⟩
  rw [HC.out]
  by_cases he : s.data.toList = []
  · obtain ⟨hq, hq2, hq3⟩ := empty_in s (by rw [he]; rfl)
    have HD : Hid (C = ([], 0)) := (HC.out).symm.trans (pparse_nil he)
    clear HC he
    go_enter Tryz.func61, Tryz.ntmps61
    go_wp2_with fail
    go_ret2
    rw [HD.out]
    exact ⟨⟨_, rfl, MRow.nil _⟩, Below.refl _ _⟩
  · obtain ⟨hq, hq2⟩ := empty_not s (by cases hx : s.data.toList with | nil => exact absurd hx he | cons a r => rfl)
    have HD1 : Hid (((Word.parts 44 s.data.toList).map pread).all pmay = false → C = ([], 2)) := fun h => (HC.out).symm.trans (pparse_form he h)
    have HD2 : Hid (((Word.parts 44 s.data.toList).map pread).all pmay = true → ¬ (Word.parts 44 s.data.toList).length ≤ 4 → C = ([], 4)) := fun h h2 => (HC.out).symm.trans (pparse_many he h h2)
    have HD3 : Hid (((Word.parts 44 s.data.toList).map pread).all pmay = true → (Word.parts 44 s.data.toList).length ≤ 4 → C = ((Word.parts 44 s.data.toList).map pread, 0)) := fun h h2 => (HC.out).symm.trans (pparse_is he h h2)
    clear HC he
    obtain ⟨i0, hi, hz0, hz1, hz2⟩ := info39
    have HI := Lib.hid (And.intro hi (And.intro hz0 (And.intro hz1 hz2)))
    clear hi hz0 hz1 hz2
    have HSp := Lib.hid (refSplit_any s 44 w (by omega))
    have HPs : Hid (∀ p ∈ Word.parts 44 s.data.toList, p.length ≤ 900) := fun p hp => by
      have := parts_small 44 _ p hp
      rw [← size_list] at this
      omega
    have hPm := parts_many 44 s.data.toList
    rw [← size_list] at hPm
    have HG : Hid (∀ k (h1 : k < (partsB 44 s).length) (h2 : k < (Word.parts 44 s.data.toList).length), (partsB 44 s)[k] = ba (Word.parts 44 s.data.toList)[k]) := fun k h1 h2 => parts_get h1 h2
    have HPl := Lib.hid (partsB_len 44 s)
    have hQ0 := partsB_pos 44 s
    generalize Word.parts 44 s.data.toList = P at *
    generalize partsB 44 s = Q at *
    go_enter Tryz.func61, Tryz.ntmps61
    go_wp2_with (first | (go_at_call 42; refine (HSp.out).mono ?_; rintro e w1 ⟨⟨v1, rfl, hr1⟩, d1⟩))
    obtain ⟨a1, c1, rfl, hc1, hl1⟩ := hr1
    obtain ⟨b1, o1, rfl, hb1, hL1⟩ := hl1 (ne_of_lt hQ0)
    have HL := Lib.hid hL1
    clear hl1 hL1 hQ0
    go_wp2_with fail
    go_loopw [4, 6] (fun out i wr => ∃ (k : Nat), k ≤ Q.length ∧ i = .int .i64 k ∧ Hid ((readk P k).all pmay = true) ∧ Hid (OwnM wr w1.heap.size out (readk P k)) ∧ Below w1.heap.size w1 wr) (fun _ i _ => Q.length - (intOf i).toNat)
    case atStart => exact ⟨0, Nat.zero_le _, rfl, rfl, ownM_nil _ _, Below.refl _ _⟩
    case round =>
      obtain ⟨k, hk, rfl, HT, HO, hbl⟩ := hrel
      have hql : Q.length ≤ 901 := by rw [HPl.out]; omega
      by_cases hlt : k < Q.length
      · have hlp : k < P.length := by rw [← HPl.out]; exact hlt
        have e1 := ((HL.out.on hb1 hbl).at k hlt)
        rw [HG.out k hlt hlp] at e1
        have i1 : (k : Int) < (Q.length : Int) := by omega
        have i2 : (0 : Int) ≤ (k : Int) := by omega
        have hbz := hbl.size
        have hpl := HPs.out _ (List.getElem_mem hlp)
        have hsz : (ba P[k]).size ≤ 100000 := by
          rw [size_list, ba_list]
          omega
        have HR := Lib.hid (refPart_any (ba P[k]) wr hsz)
        rw [ba_list] at HR
        have HK := Lib.hid (readk_next hlp)
        have hkl := readk_len P k
        rw [← HPl.out] at hkl
        have HX1 : Hid (pmay (pread P[k]) = false → C = ([], 2)) := fun h => HD1.out (may_not hlp h)
        have HX2 : Hid (pmay (pread P[k]) = true → (readk P (k + 1)).all pmay = true) := fun h => may_next hlp h HT.out
        obtain ⟨y1, y2⟩ := pread_small P[k]
        have HM := Lib.hid (fun W => mayM_any (pread P[k]) W (by omega) (by omega))
        generalize P[k] = p at *
        generalize pread p = x at *
        obtain ⟨kd, n, v⟩ := x
        unfold matV at HR
        dsimp only at HR HM
        clear HL HG HPs hsz HD1 HD2 HD3 y1 y2 hpl HT
        generalize pmay (kd, n, v) = pm at *
        cases pm
        · have HX := Lib.hid (HX1.out rfl)
          clear HX1 HX2 HO HK
          go_wp2_with fail
          refine (HR.out).mono ?_
          rintro e w2 ⟨rfl, n2⟩
          have hb2 := hbl.trans (n2.mono hbl.size)
          have hbz2 : w1.heap.size ≤ w2.heap.size := hb2.size
          clear n2 HR e1 hbl
          go_wp2_with fail
          refine (HM.out _).mono ?_
          rintro e w3 ⟨rfl, n3⟩
          have hb3 := (hb2.alloc hbz2 _).trans (n3.mono (by simp; omega))
          go_wp2_with fail
          go_ret2
          rw [HX.out]
          exact ⟨⟨_, rfl, MRow.nil _⟩, d1.trans (hb3.mono d1.size)⟩
        · have HT2 := Lib.hid (HX2.out rfl)
          clear HX1 HX2
          go_wp2_with fail
          refine (HR.out).mono ?_
          rintro e w2 ⟨rfl, n2⟩
          have hb2 := hbl.trans (n2.mono hbl.size)
          have HO2 := Lib.hid (own_on HO.out n2)
          have hbz2 : w1.heap.size ≤ w2.heap.size := hb2.size
          clear n2 HR e1 HO hbl
          go_wp2_with fail
          refine (HM.out _).mono ?_
          rintro e w3 ⟨rfl, n3⟩
          have hb3 := (hb2.alloc hbz2 _).trans (n3.mono (by simp; omega))
          have HO3 := Lib.hid (own_on (HO2.out.alloc _) n3)
          have hbz3 : w1.heap.size ≤ w3.heap.size := hb3.size
          have f0 := newC (i := 0) n3
          have f1 := newC (i := 1) n3
          have f2 := newC (i := 2) n3
          simp at f0 f1 f2
          have hlt3 : w2.heap.size < w3.heap.size := by have := n3.size; simp at this; omega
          clear n3 HM HO2 hb2
          go_wp2_with (first
            | (at_builtin; refine wpList_append_own _ rfl _ _ 36 rfl w1.heap.size 118 i0 (.agg #[.int .i64 0, .string ⟨#[]⟩, .string ⟨#[]⟩]) 3 40 Tryz.underlying36 HI.out.1 HI.out.2.1 HI.out.2.2.1 HI.out.2.2.2 rfl (by decide) _ _ _ rfl (World.ownsRow.alloc (w := w3) HO3.out _) ⟨w3.heap.size, 0, none⟩ 1 1 [Value.int .i64 kd, Value.string n, Value.string v] rfl rfl (new1M w3 kd n v) (one1M kd n v) (by unfold maxLen; omega) (by omega) (by simp; omega) ?_; intro v' w4 hown hgrow hnil))
          have HO4 := Lib.hid (ownM_next (x := (kd, n, v)) hown)
          have hb4 := ownM_below hb3 hbz3 HO3.out hgrow
          exact ⟨⟨k + 1, by omega, by go_num, HT2, by rw [HK.out]; exact HO4, hb4⟩, by simp [intOf]; omega⟩
      · have HE := Lib.hid (readk_all (P := P) (k := k) (by rw [← HPl.out]; exact hlt))
        have hr := ownM_row HO.out
        have hlen : (readk P k).length = P.length := by rw [HE.out, List.length_map]
        rw [← HE.out] at HD2 HD3
        have HLn := Lib.hid hlen
        have HT2 := HT
        clear hlen HD1 HT
        generalize readk P k = L at *
        clear HO HL HG HPs HI HE
        obtain ⟨a, c, rfl, hc, hat⟩ := hr
        have hr : MRow wr (.slice a L.length c) L := ⟨a, c, rfl, hc, hat⟩
        by_cases h4 : L.length ≤ 4
        · have HX := Lib.hid (HD3.out HT2.out (by rw [← HLn.out]; exact h4))
          clear HD2 HD3 hat HT2
          go_wp2_with fail
          go_ret2
          rw [HX.out]
          exact ⟨⟨_, rfl, hr⟩, d1.trans (hbl.mono d1.size)⟩
        · have HX := Lib.hid (HD2.out HT2.out (by rw [← HLn.out]; exact h4))
          clear HD2 HD3 hat HT2 hr
          go_wp2_with fail
          go_ret2
          rw [HX.out]
          exact ⟨⟨_, rfl, MRow.nil _⟩, d1.trans (hbl.mono d1.size)⟩
end Go.Proofs.YtidkpalckafgkaaGreatDoor
