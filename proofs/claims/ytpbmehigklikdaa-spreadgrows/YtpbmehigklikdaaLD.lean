/- Walk over Own12: the law SpreadGrows. -/
import Derived.Test.YtpbmehigklikdaaV12
import Derived.Laws.Concat
import Derived.Laws.IdiomStrings
namespace Go.Proofs.Ytpbmehigklikdaa.Sp
open Go Go.RowKit

def plus (s : ByteArray) (c : UInt8) : ByteArray := s ++ ⟨#[c]⟩
theorem plus_list (s : ByteArray) (c : UInt8) : (plus s c).data.toList = s.data.toList ++ [c] := by
  unfold plus
  rw [ByteArray.data_append, Array.toList_append]
theorem plus_size (s : ByteArray) (c : UInt8) : (plus s c).size = s.size + 1 := by
  rw [size_list, plus_list, List.length_append, ← size_list]; rfl
theorem hash_plus (s : ByteArray) (c : UInt8) : hashS (plus s c) = hstep (hashS s) c.toNat := by
  unfold hashS
  rw [← hashL_snoc, plus_list]
theorem conv1 (w : World) (c : UInt8) : Sem.run Try.prog (Go.convert 35 9 (Value.slice (some { block := w.heap.size, off := 0 }) 1 1)) (w.alloc (Obj.cells #[Value.int IntKind.u8 (c.toNat : Int)] 5)) = .ok (.string ⟨#[c]⟩) (w.alloc (Obj.cells #[Value.int IntKind.u8 (c.toNat : Int)] 5)) := by
  exact run_convert_bytes_back (P := Try.prog) (w.alloc (Obj.cells #[Value.int IntKind.u8 (c.toNat : Int)] 5)) 35 9 5 ⟨w.heap.size, 0, none⟩ 1 [c] Try.underlying35 Try.underlying5 Try.underlying9 (fun j hj => by
    have hj0 : j = 0 := by simp at hj; exact hj
    subst hj0
    simp only [List.getElem_cons_zero]
    simp [Addr.add])
set_option maxHeartbeats 1000000 in
theorem grows_walk (O : Own12) (HA0 : ∀ w : World, Calls Try.prog 7 #[] w fun e w' => e = .returned (.bool true) ∧ Below w.heap.size w w') (s : ByteArray) (c : UInt8) (w : World) (hz : s.size ≤ 281474976710656) :
    Calls Try.prog 6 #[.string s, .int .u8 (c.toNat : Int)] w fun e w' => e = .returned (.bool true) ∧ Below w.heap.size w w' := by
  have HAl := Lib.hid HA0
  by_cases hs : 2000 < s.size
  · have hs' : (2000 : Int) < (s.size : Int) := by omega
    clear HA0
    go_enter Try.func6, Try.ntmps6
    go_wp2_with (go_at_call 7; refine (HAl.out _).mono ?_; rintro e w1 ⟨rfl, n1⟩)
    go_ret
    exact ⟨rfl, n1⟩
  · have HH := Lib.hid (fun W => O.hash s W (by omega))
    have hsz : (plus s c).size ≤ 10000 := by rw [plus_size]; omega
    have HP := Lib.hid (fun W => O.hash (plus s c) W hsz)
    rw [hash_plus] at HP
    have hb : c.toNat < 256 := UInt8.toNat_lt _
    have HL := hashS_lt s
    have e1 := xor64 _ _ HL hb
    have e2 := step64 (hashS s) c.toNat
    have e3 := xor_lt _ _ HL hb
    have HM := hstep_lt (hashS s) c.toNat
    have hs' : ¬ (2000 : Int) < (s.size : Int) := by omega
    have a1 : ∀ w', Sem.run Try.prog (Op.stringOp .add s ⟨#[c]⟩) w' = .ok (.string (plus s c)) w' := fun w' => run_string_add_sum w' _ _ (by rw [show (⟨#[c]⟩ : ByteArray).size = 1 from rfl]; omega)
    have HC := Lib.hid (fun W => conv1 W c)
    clear HA0 O hsz
    generalize plus s c = P at *
    generalize hstep (hashS s) c.toNat = Y at *
    generalize hX : hashS s ^^^ c.toNat = X at *
    generalize hashS s = H at *
    clear hX
    go_enter Try.func6, Try.ntmps6
    go_wp2_with (first
      | (rw [HC.out])
      | (go_at_call 7; refine (HAl.out _).mono ?_; rintro e w1 ⟨rfl, n1⟩)
      | (go_at_call 9; refine (HH.out _).mono ?_; clear HH; rintro e w2 ⟨rfl, n2⟩)
      | (go_at_call 9; refine (HP.out _).mono ?_; rintro e w3 ⟨rfl, n3⟩))
    go_ret
    exact ⟨rfl, n1.trans ((n2.trans ((belowA n3).mono n2.size)).mono n1.size)⟩
end Go.Proofs.Ytpbmehigklikdaa.Sp
