import Derived.Test.YtidkpalckafgkaaGreatDoorE3
namespace Go.Proofs.YtidkpalckafgkaaGreatDoor.Rw
open Go Go.RowKit Go.Sort Go.Lib Tg Pk Ky Qy
theorem ktextB_list (k : Key) : (ktextB k).data.toList = ktextL (kn k) k.2 := by
  unfold ktextB ktextL kn
  by_cases h : k.2 = []
  · rw [if_pos h, if_pos h]
  · rw [if_neg h, if_neg h, ByteArray.data_append, ByteArray.data_append, ByteArray.data_append]
    simp [textB_list]
/-- What askedOf hands back. -/
theorem askedOf_any (v : Value) (q : Query) (i : Item) (w : World) (hE : Env w) (hQ : QRow w v q) (hm : q.2.2.1.length ≤ 1000000) (hs : i.key.size ≤ 900) :
    Calls Tryz.prog 85 #[v, itV i] w fun e w' => (∃ k1 ka kn kc, e = .returned (.tuple #[.agg #[.string k1, .slice ka kn kc], .bool (asked q i)]) ∧ (asked q i = true → KRow w' (.agg #[.string k1, .slice ka kn kc]) (keyOf' i))) ∧ Below w.heap.size w w' := by
  obtain ⟨qa, qc, qb, qd, rfl, -, -⟩ := hQ.open
  have hno : asked q i = false → ∀ (e : Ending) (w' : World), e = .returned (.tuple #[.agg #[.string ⟨#[]⟩, .slice none 0 0], .bool false]) ∧ Below w.heap.size w w' → (∃ k1 ka kn kc, e = .returned (.tuple #[.agg #[.string k1, .slice ka kn kc], .bool (asked q i)]) ∧ (asked q i = true → KRow w' (.agg #[.string k1, .slice ka kn kc]) (keyOf' i))) ∧ Below w.heap.size w w' := by
    rintro h e w' ⟨he, hb⟩
    rw [h]
    exact ⟨⟨_, _, _, _, he, fun h => by cases h⟩, hb⟩
  by_cases h1 : i.c.cnt < 1
  · exact (askedOf_t1 qa qc qb qd q i.win i.key i.c.cnt i.c.sn i.c.so i.c.mn i.c.mx w h1).mono (hno (asked_empty h1))
  have h1' : 1 ≤ i.c.cnt := by omega
  by_cases h2 : (kparse (kl i)).2 = 0
  · by_cases h3 : ktextL (kn (keyOf' i)) (keyOf' i).2 = kl i
    · have ht : eqB (ktextB (kparse i.key.data.toList).1) i.key = true := by
        unfold eqB
        rw [ktextB_list]
        unfold keyOf' kl at h3; simpa using h3
      have hv := asked_fits h1 h2 h3 (q := q)
      cases hf : qfits q (keyOf' i) with
      | false => exact (askedOf_t4 qa qc qb qd q i.win i.key i.c.cnt i.c.sn i.c.so i.c.mn i.c.mx w h1' hE hQ hm hs h2 ht hf).mono (hno (hv.trans hf))
      | true =>
        refine (askedOf_t5 qa qc qb qd q i.win i.key i.c.cnt i.c.sn i.c.so i.c.mn i.c.mx w h1' hE hQ hm hs h2 ht hf).mono ?_
        rintro e w' ⟨⟨kv, he, hk⟩, hb⟩
        rw [hv, hf]
        obtain ⟨ka, kc, rfl, -⟩ := hk.open
        exact ⟨⟨_, _, _, _, he, fun _ => hk⟩, hb⟩
    · have ht : eqB (ktextB (kparse i.key.data.toList).1) i.key = false := by
        unfold eqB
        rw [ktextB_list]
        unfold keyOf' kl at h3; simpa using h3
      exact (askedOf_t3 qa qc qb qd q i.win i.key i.c.cnt i.c.sn i.c.so i.c.mn i.c.mx w h1' hE hQ hm hs h2 ht).mono (hno (asked_text h3))
  · exact (askedOf_t2 qa qc qb qd q i.win i.key i.c.cnt i.c.sn i.c.so i.c.mn i.c.mx w h1' hE hQ hm hs h2).mono (hno (asked_err h2))

end Go.Proofs.YtidkpalckafgkaaGreatDoor.Rw
