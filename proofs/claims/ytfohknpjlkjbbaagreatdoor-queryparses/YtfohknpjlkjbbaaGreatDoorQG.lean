/- Walks: the fixed fact with which each law begins. -/
import Derived.Test.YtfohknpjlkjbbaaGreatDoorQ7
import Derived.Test.YtfohknpjlkjbbaaGreatDoorQ9
import Derived.Test.YtfohknpjlkjbbaaGreatDoorQF
namespace Go.Proofs.YtfohknpjlkjbbaaGreatDoor
open Go Go.RowKit Tg Pk Ky Qy

def exQ : Query := (2, ⟨#[99, 112, 117]⟩, [(1, ⟨#[97]⟩, ⟨#[49]⟩)], [⟨#[122, 111, 110, 101]⟩, ⟨#[100, 99]⟩])
def exK : Key := (⟨#[99, 112, 117]⟩, [(⟨#[97]⟩, ⟨#[49]⟩), (⟨#[100, 99]⟩, ⟨#[120]⟩), (⟨#[122, 111, 110, 101]⟩, ⟨#[121]⟩)])
theorem g_q1 : qparse (⟨#[115, 117, 109, 32, 32, 99, 112, 117, 123, 97, 61, 49, 125, 32, 98, 121, 32, 122, 111, 110, 101, 44, 100, 99, 32]⟩ : ByteArray).data.toList = (exQ, 0) := by kernel_rfl
theorem g_q2 : qparse (⟨#[97, 118, 103, 32, 99, 112, 117]⟩ : ByteArray).data.toList = (qnone, 2) := by kernel_rfl
theorem g_q3 : qparse (⟨#[115, 117, 109, 32, 99, 112, 117, 32, 98, 121, 32, 97, 44, 97]⟩ : ByteArray).data.toList = (qnone, 5) := by kernel_rfl
theorem g_k : kparse (⟨#[99, 112, 117, 123, 97, 61, 49, 44, 100, 99, 61, 120, 44, 122, 111, 110, 101, 61, 121, 125]⟩ : ByteArray).data.toList = (exK, 0) := by kernel_rfl
theorem g_t : qtextB exQ = ⟨#[115, 117, 109, 32, 99, 112, 117, 123, 97, 61, 49, 125, 32, 98, 121, 32, 122, 111, 110, 101, 44, 100, 99]⟩ := by kernel_rfl
theorem g_r : qright exQ = true := by kernel_rfl
theorem g_f : qfits exQ exK = true := by kernel_rfl
theorem g_g : textB (only exK.2 exQ.2.2.2) = ⟨#[100, 99, 61, 120, 44, 122, 111, 110, 101, 61, 121]⟩ := by kernel_rfl
theorem g_s1 : eqQ exQ exQ = true := eqQ_self _
theorem g_s2 : eqQ exQ qnone = false := by kernel_rfl

set_option maxRecDepth 100000 in
set_option maxHeartbeats 2000000 in
theorem alive_any (w : World) (hE : Env w) :
    Calls Tryz.prog 7 #[] w fun e w' => e = .returned (.bool true) ∧ Below w.heap.size w w' := by
  go_enter Tryz.func7, Tryz.ntmps7
  go_wp2_with fail
  refine (qparse_any _ _ hE (by decide)).mono ?_
  rw [g_q1]
  rintro e w1 ⟨⟨_, rfl, hq1⟩, d1⟩
  obtain ⟨a1, c1, b1, e1, rfl, m, r⟩ := hq1.open
  clear hq1
  have y1 : exQ.1 = 2 := rfl
  have y2 : exQ.2.1 = ⟨#[99, 112, 117]⟩ := rfl
  have y3 : exQ.2.2.1.length = 1 := rfl
  have y4 : exQ.2.2.2.length = 2 := rfl
  rw [y1, y2, y3, y4]
  rw [y3] at m
  rw [y4] at r
  clear y1 y2 y3 y4
  have nq := aBelow w1 (.cells #[.int .i64 2, .string ⟨#[99, 112, 117]⟩, .slice a1 1 c1, .slice b1 2 e1] 25)
  have Q := QB.new w1 w1.heap.size rfl 2 ⟨#[99, 112, 117]⟩ (.slice a1 1 c1) (.slice b1 2 e1)
  have m := m.on nq
  have r := r.on nq
  have d := d1.trans (nq.mono d1.size)
  have hE1 := hE.go d
  have zq := Q.lt
  clear nq d1
  go_wp2_with fail
  generalize w1.alloc (.cells #[.int .i64 2, .string ⟨#[99, 112, 117]⟩, .slice a1 1 c1, .slice b1 2 e1] 25) = w2 at *
  generalize w1.heap.size = qb at *
  refine (qparse_any _ _ hE1 (by decide)).mono ?_
  rw [g_q2]
  rintro e w3 ⟨⟨_, rfl, hq2⟩, n3⟩
  obtain ⟨a2, c2, b2, e2, rfl, _, _⟩ := hq2.open
  clear hq2
  have hE1 := hE1.go n3
  have Q := Q.on n3
  have m := m.on n3
  have r := r.on n3
  have zzn3 := n3.size
  have d := d.trans (n3.mono d.size)
  clear n3
  go_wp2_with fail
  refine (qparse_any _ _ (hE1.alloc _) (by decide)).mono ?_
  rw [g_q3]
  rintro e w4 ⟨⟨_, rfl, hq3⟩, n4⟩
  have n4 := belowA n4
  obtain ⟨a3, c3, b3, e3, rfl, _, _⟩ := hq3.open
  clear hq3
  have Q := Q.on n4
  have m := m.on n4
  have r := r.on n4
  have zzn4 := n4.size
  have d := d.trans (n4.mono d.size)
  clear n4 hE1
  go_wp2_with fail
  refine (refKparse_any ⟨#[99, 112, 117, 123, 97, 61, 49, 44, 100, 99, 61, 120, 44, 122, 111, 110, 101, 61, 121, 125]⟩ _ (by decide)).mono ?_
  rw [g_k]
  rintro e w5 ⟨⟨_, rfl, hk5⟩, n5⟩
  have n5 := belowA n5
  obtain ⟨ak, ck, rfl, t⟩ := hk5.open
  clear hk5
  have Q := Q.on n5
  have m := m.on n5
  have r := r.on n5
  have zzn5 := n5.size
  have d := d.trans (n5.mono d.size)
  clear n5
  have y5 : exK.1 = ⟨#[99, 112, 117]⟩ := rfl
  have y6 : exK.2.length = 3 := rfl
  rw [y5, y6]
  rw [y6] at t
  clear y5 y6
  have nk := aBelow w5 (.cells #[.string ⟨#[99, 112, 117]⟩, .slice ak 3 ck] 36)
  have k0 : (w5.alloc (.cells #[.string ⟨#[99, 112, 117]⟩, .slice ak 3 ck] 36)).cell? ⟨w5.heap.size, 0, none⟩ = some (.string ⟨#[99, 112, 117]⟩) := by simp
  have k1 : (w5.alloc (.cells #[.string ⟨#[99, 112, 117]⟩, .slice ak 3 ck] 36)).cell? ⟨w5.heap.size, 1, none⟩ = some (.slice ak 3 ck) := by simp
  have zk : w5.heap.size < (w5.alloc (.cells #[.string ⟨#[99, 112, 117]⟩, .slice ak 3 ck] 36)).heap.size := by simp
  have Q := Q.on nk
  have m := m.on nk
  have r := r.on nk
  have t := t.on nk
  have d := d.trans (nk.mono d.size)
  obtain ⟨⟨q0, q1, q2, q3⟩, _, _⟩ := id Q
  clear nk
  go_wp2_with fail
  clear q0 q1 q2 q3
  generalize w5.alloc (.cells #[.string ⟨#[99, 112, 117]⟩, .slice ak 3 ck] 36) = w6 at *
  generalize w5.heap.size = kb at *
  refine (qtext_any _ exQ _ ⟨_, _, rfl, m, r⟩ (by decide) (by decide) (by decide) (by decide) (by decide)).mono ?_
  rw [g_t]
  rintro e w7 ⟨rfl, n7⟩
  have Q := Q.on n7
  have m := m.on n7
  have r := r.on n7
  have k0 := keepC n7 k0 zk
  have k1 := keepC n7 k1 zk
  have t := t.on n7
  have d := d.trans (n7.mono d.size)
  have zk := Nat.lt_of_lt_of_le zk n7.size
  obtain ⟨⟨q0, q1, q2, q3⟩, _, _⟩ := id Q
  clear n7
  go_wp2_with fail
  clear q0 q1 q2 q3
  refine (qright_any _ exQ _ ⟨_, _, rfl, m, r⟩ (by decide) (by decide) (by decide) (by decide) (by decide)).mono ?_
  rw [g_r]
  rintro e w8 ⟨rfl, n8⟩
  have Q := Q.on n8
  have m := m.on n8
  have r := r.on n8
  have k0 := keepC n8 k0 zk
  have k1 := keepC n8 k1 zk
  have t := t.on n8
  have d := d.trans (n8.mono d.size)
  have zk := Nat.lt_of_lt_of_le zk n8.size
  obtain ⟨⟨q0, q1, q2, q3⟩, _, _⟩ := id Q
  clear n8
  go_wp2_with fail
  clear q0 q1 q2 q3
  refine (qfits_any _ _ exQ exK _ ⟨_, _, rfl, m, r⟩ ⟨_, rfl, t⟩ (by decide) (by decide)).mono ?_
  rw [g_f]
  rintro e w9 ⟨rfl, n9⟩
  have Q := Q.on n9
  have m := m.on n9
  have r := r.on n9
  have k0 := keepC n9 k0 zk
  have k1 := keepC n9 k1 zk
  have t := t.on n9
  have d := d.trans (n9.mono d.size)
  have zk := Nat.lt_of_lt_of_le zk n9.size
  obtain ⟨⟨q0, q1, q2, q3⟩, _, _⟩ := id Q
  clear n9
  go_wp2_with fail
  clear q0 q1 q2 q3
  refine (qgroup_any _ _ exQ exK _ ⟨_, _, rfl, m, r⟩ ⟨_, rfl, t⟩ (by decide) (by decide) (by decide)).mono ?_
  rw [g_g]
  rintro e wa ⟨rfl, na⟩
  have Q := Q.on na
  have m := m.on na
  have r := r.on na
  have k0 := keepC na k0 zk
  have k1 := keepC na k1 zk
  have t := t.on na
  have d := d.trans (na.mono d.size)
  have zk := Nat.lt_of_lt_of_le zk na.size
  obtain ⟨⟨q0, q1, q2, q3⟩, _, _⟩ := id Q
  clear na
  go_wp2_with fail
  clear q0 q1 q2 q3
  refine (qsame_any _ _ exQ exQ _ ⟨_, _, rfl, m, r⟩ ⟨_, _, rfl, m, r⟩ (by decide) (by decide)).mono ?_
  rw [g_s1]
  rintro e wb ⟨rfl, nb⟩
  have Q := Q.on nb
  have m := m.on nb
  have r := r.on nb
  have k0 := keepC nb k0 zk
  have k1 := keepC nb k1 zk
  have t := t.on nb
  have d := d.trans (nb.mono d.size)
  have zk := Nat.lt_of_lt_of_le zk nb.size
  obtain ⟨⟨q0, q1, q2, q3⟩, _, _⟩ := id Q
  clear nb
  go_wp2_with fail
  clear q0 q1 q2 q3
  refine (qsame_any _ _ exQ qnone _ ⟨_, _, rfl, m, r⟩ (qnone_row _) (by decide) (by decide)).mono ?_
  rw [g_s2]
  rintro e wc ⟨rfl, nc⟩
  have d := d.trans (nc.mono d.size)
  go_wp2_with fail
  go_ret
  exact ⟨rfl, d⟩
end Go.Proofs.YtfohknpjlkjbbaaGreatDoor
