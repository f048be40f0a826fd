/- What the program's own functions of spread are held to. -/
import Derived.Test.YtpbmehigklikdaaR12
namespace Go.Proofs.Ytpbmehigklikdaa.Sp
open Go Go.RowKit

/-- The value v is a slice that holds the lists L, each a slice of its own. -/
def partC (r : Value × List ByteArray) : List Value := [r.1]
def PRow (w : World) (v : Value) (L : List (List ByteArray)) : Prop := ∃ rs : List (Value × List ByteArray), GRow partC 1 w v rs ∧ rs.map (·.2) = L ∧ ∀ r ∈ rs, TRow w r.1 r.2
theorem PRow.on {w w1 : World} {v : Value} {L : List (List ByteArray)} (h : PRow w v L) (n : Below w.heap.size w w1) : PRow w1 v L := by
  obtain ⟨rs, h1, h2, h3⟩ := h
  exact ⟨rs, h1.on n, h2, fun r hr => (h3 r hr).on n⟩
/-- The program's own answers are those of the plain functions. -/
structure Own12 : Prop where
  hash : ∀ (s : ByteArray) (w : World), s.size ≤ 10000 → Calls Try.prog 9 #[.string s] w fun e w' => e = .returned (.int .u32 (hashS s : Int)) ∧ Below w.heap.size w w'
  of : ∀ (s : ByteArray) (n : Int) (w : World), s.size ≤ 10000 → -9223372036854775808 ≤ n → n ≤ 9223372036854775807 → Calls Try.prog 8 #[.string s, .int .i64 n] w fun e w' => e = .returned (.int .i64 (shardOf s n : Int)) ∧ Below w.heap.size w w'
  parts : ∀ (v : Value) (l : List ByteArray) (n : Int) (w : World), TRow w v l → l.length ≤ 1000 → (∀ s ∈ l, s.size ≤ 10000) → -9223372036854775808 ≤ n → n ≤ 9223372036854775807 → Calls Try.prog 13 #[.int .i64 n, v] w fun e w' => (∃ v', e = .returned v' ∧ PRow w' v' (partsOf n l)) ∧ Below w.heap.size w w'
end Go.Proofs.Ytpbmehigklikdaa.Sp
