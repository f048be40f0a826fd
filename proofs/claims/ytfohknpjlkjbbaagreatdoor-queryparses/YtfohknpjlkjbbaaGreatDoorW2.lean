/- Walks: the program's Split, Join and Fields, over the library's contracts. -/
import Derived.Test.YtfohknpjlkjbbaaGreatDoorR0
import Derived.Test.YtfohknpjlkjbbaaGreatDoorShelf
import Derived.Lib.OwnBridge
namespace Go.Proofs.YtfohknpjlkjbbaaGreatDoor
open Go Go.RowKit Go.Lib Go.Sort

/-- What the walks ask of the world: the library's variable MaxLen holds an int. -/
def Env (w : World) : Prop := ∃ m : Int, w.cell? ⟨0, 0, none⟩ = some (.int .i64 m)
theorem Env.lt {w : World} (h : Env w) : 0 < w.heap.size := by
  obtain ⟨m, hm⟩ := h
  exact World.block_lt_of_cell? _ _ hm
theorem Env.go {w w1 : World} (h : Env w) (hb : Below w.heap.size w w1) : Env w1 := by
  have hz := h.lt
  obtain ⟨m, hm⟩ := h
  exact ⟨m, by rw [hb.cell (p := ⟨0, 0, none⟩) hz]; exact hm⟩
theorem Env.alloc {w : World} (h : Env w) (o : Obj) : Env (w.alloc o) := h.go ((Below.refl _ _).alloc (Nat.le_refl _) _)

/-- A list of bytes as a string; lists of them. -/
def ba (l : List UInt8) : ByteArray := ⟨l.toArray⟩
theorem ba_list (l : List UInt8) : (ba l).data.toList = l := by simp [ba]
theorem ba_eq (s : ByteArray) : ba s.data.toList = s := by apply ByteArray.ext; simp [ba]
theorem ba_map (l : List ByteArray) : (l.map (·.data.toList)).map ba = l := by
  rw [List.map_map]
  conv => rhs; rw [← List.map_id l]
  apply List.map_congr_left
  intro x _
  exact ba_eq x
theorem map_ba (l : List (List UInt8)) : (l.map ba).map (·.data.toList) = l := by
  rw [List.map_map]
  conv => rhs; rw [← List.map_id l]
  apply List.map_congr_left
  intro x _
  exact ba_list x

def partsB (c : UInt8) (s : ByteArray) : List ByteArray := (Word.parts c s.data.toList).map ba
def fieldsB (s : ByteArray) : List ByteArray := (Word.fields s.data.toList).map ba

theorem split_parts (c : UInt8) (s : ByteArray) : Lib.splitB ⟨#[c]⟩ 0 (Lib.countB s ⟨#[c]⟩) s = partsB c s := by
  have h := Lib.splitB_data ⟨#[c]⟩ 0 (Lib.countB s ⟨#[c]⟩) s
  have h2 : Lib.splitK [c] 0 (Lib.count s.data.toList [c]) s.data.toList = Word.parts c s.data.toList := Word.splitK_parts c _
  have h3 : (Lib.splitB ⟨#[c]⟩ 0 (Lib.countB s ⟨#[c]⟩) s).map (·.data.toList) = Word.parts c s.data.toList := h.trans h2
  rw [partsB, ← h3, ba_map]
theorem count_parts (c : UInt8) (s : ByteArray) : Lib.countB s ⟨#[c]⟩ + 1 = (partsB c s).length := by
  rw [← split_parts, Lib.splitB_all ⟨#[c]⟩ (Nat.le_refl 1) 0 _ s rfl]
theorem parts_le (c : UInt8) (s : ByteArray) : (partsB c s).length ≤ s.size + 1 := by
  rw [← count_parts]
  have := Lib.countB_le ⟨#[c]⟩ (Nat.le_refl 1) s.size s (Nat.le_refl _)
  omega

theorem conv1 (w : World) (c : UInt8) : Sem.run Tryz.prog (convert 90 9 (Value.slice (some { block := w.heap.size, off := 0 }) 1 1)) (w.alloc (Obj.cells #[Value.int IntKind.u8 (c.toNat : Int)] 5)) = .ok (.string ⟨#[c]⟩) (w.alloc (Obj.cells #[Value.int IntKind.u8 (c.toNat : Int)] 5)) := by
  exact run_convert_bytes_back (P := Tryz.prog) (w.alloc (Obj.cells #[Value.int IntKind.u8 (c.toNat : Int)] 5)) 90 9 5 ⟨w.heap.size, 0, none⟩ 1 [c] Tryz.underlying90 Tryz.underlying5 Tryz.underlying9 (fun j hj => by
    have hj0 : j = 0 := by simp at hj; exact hj
    subst hj0
    simp only [List.getElem_cons_zero]
    simp [Addr.add])

/-- The world behind a split. -/
def splitW (c : UInt8) (s : ByteArray) (w : World) : World := (w.alloc (.cells #[.int .u8 (c.toNat : Int)] 5)).alloc (.cells ((partsB c s).map Value.string).toArray 9)
theorem splitW_size (c : UInt8) (s : ByteArray) (w : World) : (splitW c s w).heap.size = w.heap.size + 2 := by simp [splitW]
theorem splitW_below (c : UInt8) (s : ByteArray) (w : World) : Below w.heap.size w (splitW c s w) := ((Below.refl _ _).alloc (Nat.le_refl _) _).alloc (by simp) _
theorem splitW_lies (c : UInt8) (s : ByteArray) (w : World) : Lies (splitW c s w) (w.heap.size + 1) 0 (partsB c s) := by
  intro j x hx
  have hz : (w.alloc (.cells #[.int .u8 (c.toNat : Int)] 5)).heap.size = w.heap.size + 1 := by simp
  have h := cell_of_row (splitW c s w) (w.heap.size + 1) (0 + j) ((partsB c s).map Value.string).toArray 9 (0, 0) (by unfold splitW; rw [← hz]; exact heap_alloc_new _ _)
  rw [h]
  simp [hx]
theorem splitW_frozen (c : UInt8) (s : ByteArray) (w : World) (j : Nat) : (splitW c s w).frozen? ⟨w.heap.size + 1, j, none⟩ = false := by
  have hz : (w.alloc (.cells #[.int .u8 (c.toNat : Int)] 5)).heap.size = w.heap.size + 1 := by simp
  unfold splitW
  rw [← hz]
  simp [go_sem]

set_option maxHeartbeats 400000 in
theorem split_any (s : ByteArray) (c : UInt8) (w : World) (hE : Env w) (hs : s.size < 4294967281) :
    Calls Tryz.prog 67 #[.string s, .int .u8 (c.toNat : Int)] w fun e w' => e = .returned (.slice (some ⟨w.heap.size + 1, 0, none⟩) (partsB c s).length (partsB c s).length) ∧ w' = splitW c s w := by
  obtain ⟨m, hm⟩ := hE.alloc (.cells #[.int .u8 (c.toNat : Int)] 5)
  have hC := Tryz.strings_Split s ⟨#[c]⟩ m _ hs hm (Nat.le_refl 1)
  rw [split_parts, count_parts] at hC
  have HC := Lib.hid hC
  have hcv := conv1 w c
  clear hC hm hE
  go_enter Tryz.func67, Tryz.ntmps67
  go_wp2_with (go_at_call 87; refine (HC.out).mono ?_; rintro e w' ⟨rfl, rfl⟩)
  go_ret
  exact ⟨by simp, rfl⟩

def joinB (sep : ByteArray) (l : List ByteArray) : ByteArray := ba (Lib.join (l.map (·.data.toList)) sep.data.toList)
theorem joinB_size (sep : ByteArray) (l : List ByteArray) : (joinB sep l).size = (Lib.join (l.map (·.data.toList)) sep.data.toList).length := by rw [size_list, joinB, ba_list]

set_option maxHeartbeats 400000 in
theorem join_any (b o c : Nat) (l : List ByteArray) (sep : ByteArray) (w : World) (hL : Lies w b o l) (hb : b < w.heap.size) (hN : l.length ≤ 140737488355328) (hcap : l.length ≤ c) (hlen : (joinB sep l).size ≤ 140737488355328) :
    Calls Tryz.prog 32 #[.string sep, .slice (some ⟨b, o, none⟩) l.length c] w fun e w' => e = .returned (.string (joinB sep l)) ∧ Below w.heap.size w w' := by
  have HC := Lib.hid (Tryz.strings_Join b o c l sep w hL hb hN hcap (by rw [← joinB_size]; exact hlen))
  clear hlen
  have HJ : Hid (joinB sep l = ⟨(Lib.join (l.map (·.data.toList)) sep.data.toList).toArray⟩) := rfl
  generalize joinB sep l = J at HJ ⊢
  rw [← HJ.out] at HC
  clear HJ
  go_enter Tryz.func32, Tryz.ntmps32
  go_wp2_with (go_at_call 64; refine (HC.out).mono ?_; rintro e w' ⟨rfl, n⟩)
  go_ret
  exact ⟨rfl, n⟩

set_option maxHeartbeats 400000 in
theorem join_zero (a : Option Addr) (c : Nat) (sep : ByteArray) (w : World) :
    Calls Tryz.prog 32 #[.string sep, .slice a 0 c] w fun e w' => e = .returned (.string ⟨#[]⟩) ∧ w' = w := by
  have HC := Lib.hid (Tryz.strings_Join_none a c sep w)
  go_enter Tryz.func32, Tryz.ntmps32
  go_wp2_with (go_at_call 64; refine (HC.out).mono ?_; rintro e w' ⟨rfl, rfl⟩)
  go_ret
  exact ⟨rfl, rfl⟩

theorem enters29 : ∀ args w, (callFunc 68 args).run Tryz.prog w = .ok (.enter 68 args) w := enters_of Tryz.func68 (by kernel_rfl) rfl
def emptyB (s : ByteArray) : Bool := s.data.toList.isEmpty
theorem empty_gives (x : ByteArray) (W : World) : FnGives Tryz.prog 68 #[] #[.string x] (.bool (emptyB x)) W := by
  unfold FnGives
  exact (empty_any x W).mono fun e w' ⟨he, hw⟩ => ⟨he, 0, hw⟩
theorem kept_fields (s : ByteArray) : ((partsB 32 s).filter fun x => !emptyB x) = fieldsB s := by
  rw [partsB, fieldsB, Word.fields, List.filter_map]
  congr 1

theorem row_get {l r : List ByteArray} {d : Array ByteArray} (hd : d = (l ++ r).toArray) {j : Nat} {x : ByteArray} (h : l[j]? = some x) : j < d.size ∧ d[j]! = x := by
  subst hd
  have hj : j < l.length := (List.getElem?_eq_some_iff.1 h).1
  have hj2 : j < (l ++ r).length := by rw [List.length_append]; omega
  refine ⟨by simpa using hj2, ?_⟩
  rw [getElem!_pos _ j (by simpa using hj2)]
  have := (List.getElem?_eq_some_iff.1 h).2
  simp only [List.getElem_toArray]
  rw [List.getElem_append_left hj, this]

set_option maxHeartbeats 400000 in
theorem fields_any (s : ByteArray) (w : World) (hE : Env w) (hs : s.size < 4294967281) :
    Calls Tryz.prog 40 #[.string s] w fun e w' => ∃ c, e = .returned (.slice (some ⟨w.heap.size + 1, 0, none⟩) (fieldsB s).length c) ∧ (fieldsB s).length ≤ c ∧ w.heap.size + 1 < w'.heap.size ∧ Lies w' (w.heap.size + 1) 0 (fieldsB s) ∧ Below w.heap.size w w' := by
  have HS := Lib.hid (split_any s 32 w hE hs)
  have hZ := parts_le 32 s
  have hH : Holds Value.string (splitW 32 s w) (w.heap.size + 1) 0 (partsB 32 s).toArray := by
    intro j hj
    have hj' : j < (partsB 32 s).length := by simpa using hj
    refine ⟨?_, splitW_frozen 32 s w _⟩
    have h1 := splitW_lies 32 s w j (partsB 32 s)[j] (List.getElem?_eq_getElem hj')
    rw [h1, getElem!_pos _ j hj]
    simp
  have hD := Tryz.slices_DeleteFunc Value.string (fun _ => rfl) emptyB 68 #[] enters29 ByteArray.empty (fun w => Tryz.zeroValue9 w) (w.heap.size + 1) 0 (partsB 32 s).length (partsB 32 s).toArray (splitW 32 s w) (fun W x _ => empty_gives x W) (fun n os dk x _ => empty_gives x _) hH (by simp; omega) (by simp)
  rw [kept_fields] at hD
  have hsz : (partsB 32 s).toArray.size = (partsB 32 s).length := by simp
  have hF : (fieldsB s).length ≤ (partsB 32 s).length := by rw [← kept_fields]; exact List.length_filter_le _ _
  have hlie : ∀ q, Lies (putRow Value.string (Sort.ahead (splitW 32 s w) q) (w.heap.size + 1) 0 (fieldsB s ++ List.replicate ((partsB 32 s).toArray.size - (fieldsB s).length) ByteArray.empty).toArray) (w.heap.size + 1) 0 (fieldsB s) := by
    intro q j x hx
    obtain ⟨g1, g2⟩ := row_get (r := List.replicate ((partsB 32 s).toArray.size - (fieldsB s).length) ByteArray.empty) rfl hx
    rw [cell?_putRow Value.string (Sort.ahead (splitW 32 s w) q) (w.heap.size + 1) 0 (partsB 32 s).toArray _ hH (by simp; omega) j g1, g2]
  rw [hsz] at hD
  have HD := Lib.hid hD
  have HL := Lib.hid hlie
  clear hD hlie hH hE
  go_enter Tryz.func40, Tryz.ntmps40
  go_wp2_with (first
    | (go_at_call 67; refine (HS.out).mono ?_; rintro e w' ⟨rfl, rfl⟩)
    | (go_at_call 66; refine (HD.out).mono ?_; rintro e w' ⟨rfl, q, rfl⟩))
  go_ret
  refine ⟨_, rfl, hF, ?_, ?_, ?_⟩
  · rw [size_putRow, heap_ahead, splitW_size]; omega
  · have := HL.out q
    rw [hsz] at this
    exact this
  · exact below_putRow (splitW_below 32 s w) (by omega)
end Go.Proofs.YtfohknpjlkjbbaaGreatDoor
