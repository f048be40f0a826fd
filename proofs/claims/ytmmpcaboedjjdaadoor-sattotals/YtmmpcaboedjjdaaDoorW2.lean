/- Walks: the numbers' and sums' texts: Number, Text, Read, Parse, over the library's contracts. -/
import Derived.Test.YtmmpcaboedjjdaaDoorM2
import Derived.Test.YtmmpcaboedjjdaaDoorW1
import Derived.Test.YtmmpcaboedjjdaaDoorShelf
import Derived.Lib.AppendIntMem
import Derived.Lib.AtoiErrMem
import Derived.Lib.ItoaLen
namespace Go.Proofs.YtmmpcaboedjjdaaDoor
open Go Go.RowKit

/-- What the walks ask of the world, whatever is done from block B on: the table of powers, and that the variable ErrRange holds an error. -/
structure Env (B : Nat) (w : World) : Prop where
  tab : Lib.TabBelow Tryd.prog B w "internal/strconv.uint64pow10" .u64 Lib.pow10Tab
  rng : ∀ w', Below B w w' → ∃ tp p, w'.var? Tryd.prog "strconv.ErrRange" = some #[.iface tp p]
  size : B ≤ w.heap.size

theorem Env.on {B : Nat} {w w1 : World} (h : Env B w) (hb : Below B w w1) : Env B w1 :=
  ⟨h.tab.on hb, fun w' h' => h.rng w' (hb.trans h'), Nat.le_trans h.size hb.size⟩
theorem Env.go {B : Nat} {w w1 : World} (h : Env B w) (hb : Below w.heap.size w w1) : Env B w1 := h.on (hb.mono h.size)
theorem Env.alloc {B : Nat} {w : World} (h : Env B w) (o : Obj) : Env B (w.alloc o) := h.go ((Below.refl _ _).alloc (Nat.le_refl _) _)

theorem below_grown (w : World) (q : Nat) (os : Array Obj) : Below w.heap.size w (Sort.grow (w.drewN q) os) :=
  ⟨rfl, rfl, rfl, by simp [Sort.grow], fun i hi => by
    show ((w.drewN q).heap ++ os)[i]? = _
    rw [Array.getElem?_append_left (by show i < w.heap.size; omega)]
    rfl⟩

/-- Of a call's result: a string; nothing that was there has turned. -/
theorem number_any (B : Nat) (n : Int) (w : World) (hE : Env B w) (h0 : -9223372036854775808 ≤ n) (h1 : n ≤ 9223372036854775807) :
    Calls Tryd.prog 20 #[.int .i64 n] w fun e w' => e = .returned (.string ⟨(Lib.itoa n).toArray⟩) ∧ Below w.heap.size w w' := by
  have htab := hE.tab.here
  clear hE
  go_enter Tryd.func20, Tryd.ntmps20
  go_wp2_with (go_at_call 27; refine (Tryd.strconv_FormatInt_10 n h0 h1 _ htab).mono ?_; rintro e w' ⟨rfl, k, os, rfl⟩)
  go_ret
  exact ⟨rfl, below_grown _ _ _⟩

def textL (n : Int) (o : Bool) : List UInt8 := if o = true then Lib.itoa n ++ [33] else Lib.itoa n

theorem ba_append (l r : List UInt8) : (⟨l.toArray⟩ : ByteArray) ++ (⟨r.toArray⟩ : ByteArray) = ⟨(l ++ r).toArray⟩ := by
  apply ByteArray.ext
  rw [ByteArray.data_append]
  simp
theorem ret_str {a b : ByteArray} (h : a = b) : Ending.returned (.string a) = .returned (.string b) := by rw [h]

set_option maxHeartbeats 400000 in
theorem text_any (B : Nat) (n : Int) (o : Bool) (w : World) (hE : Env B w) (h0 : -9223372036854775808 ≤ n) (h1 : n ≤ 9223372036854775807) :
    Calls Tryd.prog 18 #[.agg #[.int .i64 n, .bool o]] w fun e w' => e = .returned (.string ⟨(textL n o).toArray⟩) ∧ Below w.heap.size w w' := by
  have hl := Lib.itoa_length_le n h0 h1
  cases o
  · have hf : textL n false = Lib.itoa n := by simp [textL]
    rw [hf]
    clear hf
    go_enter Tryd.func18, Tryd.ntmps18
    go_wp2_with fail
    refine (number_any B n _ (hE.alloc _) h0 h1).mono ?_
    rintro e w1 ⟨rfl, hb⟩
    go_wp2
    go_ret
    exact ⟨rfl, ((Below.refl _ _).alloc (Nat.le_refl _) _).trans (hb.mono (by simp))⟩
  · have hf : textL n true = Lib.itoa n ++ [33] := by simp [textL]
    rw [hf]
    clear hf
    go_enter Tryd.func18, Tryd.ntmps18
    go_wp2_with fail
    refine (number_any B n _ (hE.alloc _) h0 h1).mono ?_
    rintro e w1 ⟨rfl, hb⟩
    go_wp2
    go_ret
    exact ⟨ret_str (ba_append _ _), ((Below.refl _ _).alloc (Nat.le_refl _) _).trans (hb.mono (by simp))⟩

theorem take_snoc (s : ByteArray) (k : Nat) (h : k < s.size) : s.data.toList.take (k + 1) = s.data.toList.take k ++ [s[k]] := by
  rw [List.take_succ_eq_append_getElem (by simpa using h)]; rfl

/-- allDigits: digits, at least one. -/
def allD (l : List UInt8) : Bool := Sat.digs l && !l.isEmpty

theorem digs_snoc (l : List UInt8) (c : UInt8) : Sat.digs (l ++ [c]) = (Sat.digs l && (decide (48 ≤ c.toNat) && decide (c.toNat ≤ 57))) := by
  simp [Sat.digs, Sat.dgt]
theorem digs_take {l : List UInt8} {k : Nat} (h : Sat.digs (l.take k) = false) : Sat.digs l = false := by
  cases hd : Sat.digs l with
  | false => rfl
  | true =>
    have : Sat.digs (l.take k) = true := by
      simp only [Sat.digs, List.all_eq_true] at hd ⊢
      exact fun x hx => hd x (List.mem_of_mem_take hx)
    rw [this] at h
    cases h
theorem ret_bool {a b : Bool} (h : a = b) : Ending.returned (.bool a) = .returned (.bool b) := by rw [h]

set_option maxHeartbeats 400000 in
theorem allDigits_any (s : ByteArray) (w : World) (hs : s.size ≤ 9223372036854775807) :
    Calls Tryd.prog 30 #[.string s] w fun e w' => e = .returned (.bool (allD s.data.toList)) ∧ w' = w := by
  go_enter Tryd.func30, Tryd.ntmps30
  go_wp2
  go_loop [3, 6] (fun _ i => ∃ k : Nat, k ≤ s.size ∧ i = .int .i64 k ∧ Hid (Sat.digs (s.data.toList.take k) = true)) (fun _ i => s.size - (intOf i).toNat)
  case atStart => exact ⟨0, Nat.zero_le _, rfl, rfl⟩
  case round =>
    obtain ⟨k, hk, rfl, HD⟩ := hrel
    by_cases hlt : k < s.size
    · have hts := take_snoc s k hlt
      have HS : Hid (Sat.digs (s.data.toList.take (k + 1)) = (Sat.digs (s.data.toList.take k) && (decide (48 ≤ (s[k]).toNat) && decide ((s[k]).toNat ≤ 57)))) := by rw [hts]; exact digs_snoc _ _
      clear hts
      have HN : Hid ((((s[k]).toNat : Int) < 48 ∨ 57 < ((s[k]).toNat : Int)) → allD s.data.toList = false) := by
        intro h
        have h1 := HS.out
        rw [HD.out] at h1
        have h2 : Sat.digs (s.data.toList.take (k + 1)) = false := by rw [h1]; simp; omega
        simp [allD, digs_take h2]
      go_wp2
      case roundEnd =>
        have h2 : 48 ≤ ((s[k]).toNat : Int) ∧ ((s[k]).toNat : Int) ≤ 57 := by assumption
        refine ⟨⟨k + 1, by omega, by go_num, ?_⟩, by simp [intOf]; omega⟩
        show _ = _
        rw [HS.out, HD.out]
        simp
        omega
      all_goals
        go_ret
        exact ⟨ret_bool (HN.out (by omega)).symm, rfl⟩
    · have hk' : s.data.toList.take k = s.data.toList := List.take_of_length_le (by simp; omega)
      have HA : Hid (allD s.data.toList = !s.data.toList.isEmpty) := by
        have h1 := HD.out
        rw [hk'] at h1
        show _ = _
        rw [allD, h1, Bool.true_and]
      clear hk'
      go_wp2
      go_ret
      exact ⟨ret_bool (by rw [ByteArray.toList_eq]; exact (HA.out).symm), rfl⟩
end Go.Proofs.YtmmpcaboedjjdaaDoor
