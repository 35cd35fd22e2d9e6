/- Plain facts. -/
import Derived.Test.YtdbfpdanoclgmaaS1
import Derived.Deep.AppendLies
import Derived.Deep.RegionHeld3
import Derived.Test.YtdbfpdanoclgmaaSI
import Derived.Test.YtdbfpdanoclgmaaGR23
import Derived.Test.YtdbfpdanoclgmaaGR4
import Derived.Test.YtdbfpdanoclgmaaGR18
import Derived.Test.YtdbfpdanoclgmaaGR7
/- Contracts of the functions of chapter 1 in the model: TurnedNet. -/
namespace Go.Proofs.Ytdbfpdanoclgmaa
open Go.RowKit

theorem heap_new2 (w : World) (o o' : Obj) : ((w.alloc o).alloc o').heap[w.heap.size + 1]? = some o' := by
  have h := heap_alloc_new (w.alloc o) o'
  rwa [World.size_alloc] at h

end Go.Proofs.Ytdbfpdanoclgmaa

/- Contracts of the functions of chapter 3 in the model: ReachedFrom. -/
namespace Go.Proofs.Ytdbfpdanoclgmaa
open Go.RowKit

theorem sreach_no1 {n : Int} {ps : List Pp} {xs : List Int} {a : Int} (h : holdsB n ps xs = false) : reachS n ps xs a = -1 := by rw [reachS, if_neg (by simp [reachB, h])]
theorem sreach_no2 {n : Int} {ps : List Pp} {xs : List Int} {a : Int} (h : withinB a 0 (n - 1) = false) : reachS n ps xs a = -1 := by rw [reachS, if_neg (by simp [reachB, h])]

/-- a side that holds what is reached in so many rounds and some steps, and no more -/
def growOk (n : Int) (ps : List Pp) (xs : List Int) (a : Int) (r k : Nat) (s : Int) : Prop :=
  0 ≤ s ∧ s ≤ 2 ^ n.toNat - 1 ∧ (∀ v : Nat, (v : Int) < n → bitB s (v : Int) = true → ∃ m, inK (edgL ps xs) m a (v : Int) = true) ∧ (∀ v : Nat, (v : Int) < n → inK (edgL ps xs) r a (v : Int) = true → bitB s (v : Int) = true) ∧
    ∀ t ∈ opens ps xs k, inK (edgL ps xs) r a (stFr ps t) = true → bitB s (stTo ps t) = true

section
variable {n : Int} {ps : List Pp} {xs : List Int} {a : Int} {r k : Nat} {s : Int}
theorem grow_start (hn : netOkB n ps = true) (a0 : 0 ≤ a) (a1 : a < n) : growOk n ps xs a 0 0 (2 ^ a.toNat) := by
  have h := netOk_parts hn
  obtain ⟨p0, p1⟩ := pow_side (n := n) a0 a1
  refine ⟨p0, p1, ?_, ?_, by simp [opens]⟩
  · intro v hv hb
    have := pow_bit (k := a.toNat) (v := v) (by omega) (by omega)
    rw [this] at hb
    have hva : v = a.toNat := by simpa using hb
    have e : (v : Int) = a := by omega
    rw [e]; exact ⟨0, inK_self 0⟩
  · intro v hv hin
    have e : a = (v : Int) := by simpa [inK] using hin
    rw [pow_bit (by omega) (by omega)]
    simp; omega
theorem grow_round (h : growOk n ps xs a r (2 * ps.length) s) : growOk n ps xs a (r + 1) 0 s := by
  obtain ⟨h0, h1, h2, h3, h4⟩ := h
  refine ⟨h0, h1, h2, ?_, by simp [opens]⟩
  intro v hv hin
  rcases inK_last hin with hin | ⟨e, he, hev, hin⟩
  · exact h3 v hv hin
  · obtain ⟨t, ht, hr, hf, hto⟩ := edg_mem.1 he
    rw [← hev, ← hto]
    exact h4 t (stL_mem.2 ⟨ht, hr⟩) (by rw [hf]; exact hin)
theorem grow_no (h : growOk n ps xs a r k s) (hk : k < 2 * ps.length) (hn : netOkB n ps = true) (hc : openF ps xs k = true → bitB s (stFr ps k) = false) : growOk n ps xs a r (k + 1) s := by
  obtain ⟨h0, h1, h2, h3, h4⟩ := h
  refine ⟨h0, h1, h2, h3, ?_⟩
  intro t ht hin
  by_cases ho : openF ps xs k = true
  · rw [opens_yes ho] at ht
    rcases List.mem_append.1 ht with ht | ht
    · exact h4 t ht hin
    · simp at ht; subst ht
      obtain ⟨⟨e0, e1⟩, -, -⟩ := st_ends hn hk
      have e : (((stFr ps t).toNat : Nat) : Int) = stFr ps t := by omega
      have := h3 (stFr ps t).toNat (by omega) (by rw [e]; exact hin)
      rw [e, hc ho] at this; cases this
  · rw [opens_no (by simpa using ho)] at ht
    exact h4 t ht hin
theorem grow_yes (h : growOk n ps xs a r k s) (hk : k < 2 * ps.length) (hn : netOkB n ps = true) (ho : openF ps xs k = true) (hb : bitB s (stFr ps k) = true) : growOk n ps xs a r (k + 1) (bits .or .i64 s (2 ^ (stTo ps k).toNat)) := by
  have hp := netOk_parts hn
  obtain ⟨h0, h1, h2, h3, h4⟩ := h
  obtain ⟨⟨e0, e1⟩, ⟨t0, t1⟩, -⟩ := st_ends hn hk
  obtain ⟨p0, p1⟩ := pow_side (n := n) t0 t1
  have h5 := pow_le5 (n := n) (by omega)
  obtain ⟨q0, q1⟩ := or_in' (n := n) (by omega) (by omega) h0 h1 p0 p1
  have hor : ∀ v : Nat, (v : Int) < n → bitB (bits .or .i64 s (2 ^ (stTo ps k).toNat)) (v : Int) = (bitB s (v : Int) || decide (v = (stTo ps k).toNat)) := fun v hv => by
    rw [or_bit' h0 (by omega) p0 (by omega) (by omega) (by omega), pow_bit (by omega) (by omega)]
  have eto : (((stTo ps k).toNat : Nat) : Int) = stTo ps k := by omega
  refine ⟨q0, q1, ?_, ?_, ?_⟩
  · intro v hv hbv
    rw [hor v hv, Bool.or_eq_true] at hbv
    rcases hbv with hbv | hbv
    · exact h2 v hv hbv
    · have e : (v : Int) = stTo ps k := by have : v = (stTo ps k).toNat := by simpa using hbv
                                           omega
      have ef : (((stFr ps k).toNat : Nat) : Int) = stFr ps k := by omega
      obtain ⟨m, hm⟩ := h2 (stFr ps k).toNat (by omega) (by rw [ef]; exact hb)
      rw [ef] at hm
      rw [e]
      exact ⟨m + 1, inK_snoc (e := (stFr ps k, stTo ps k)) hm (edg_mem.2 ⟨k, hk, by simpa [openF] using ho, rfl, rfl⟩)⟩
  · intro v hv hin
    rw [hor v hv, h3 v hv hin]; rfl
  · intro t ht hin
    have hto : ∀ t, t < 2 * ps.length → bitB s (stTo ps t) = true → bitB (bits .or .i64 s (2 ^ (stTo ps k).toNat)) (stTo ps t) = true := fun t ht2 hx => by
      obtain ⟨-, ⟨x0, x1⟩, -⟩ := st_ends hn ht2
      have e : (((stTo ps t).toNat : Nat) : Int) = stTo ps t := by omega
      have := hor (stTo ps t).toNat (by omega)
      rw [e] at this
      rw [this, hx]; rfl
    rw [opens_yes ho] at ht
    rcases List.mem_append.1 ht with ht | ht
    · have htl : t < 2 * ps.length := by
        simp only [opens, List.mem_filter, List.mem_range] at ht
        omega
      exact hto t htl (h4 t ht hin)
    · simp at ht; subst ht
      have := hor (stTo ps t).toNat (by omega)
      rw [eto] at this
      rw [this]; simp
theorem grow_end (hn : netOkB n ps = true) (hr : reachB n ps xs a = true) (h : growOk n ps xs a n.toNat 0 s) : s = reachI n ps xs a := by
  obtain ⟨h0, h1, h2, h3, -⟩ := h
  obtain ⟨hh, -, n2, n5, a0, a1⟩ := reach_parts hr
  obtain ⟨r0, r1⟩ := reach_in n ps xs a
  refine side_ext (n := n.toNat) (by omega) h0 h1 r0 r1 (fun v hv => ?_)
  rw [Bool.eq_iff_iff, reach_bit hr (by omega) (by omega)]
  constructor
  · exact h2 v (by omega)
  · rintro ⟨m, hm⟩
    exact h3 v (by omega) (inK_mono (by omega) (inK_all (n := n.toNat) (by omega) (edg_in hn xs) hm))
end

end Go.Proofs.Ytdbfpdanoclgmaa

/- Contracts of the functions of chapter 4 in the model: RingOk and ThreadOk. -/
namespace Go.Proofs.Ytdbfpdanoclgmaa
open Go.RowKit

theorem tmod_len {k m : Nat} : ((k : Int) + 1).tmod (m : Int) = (((k + 1) % m : Nat) : Int) := by
  rw [show (k : Int) + 1 = ((k + 1 : Nat) : Int) by omega]
  rw [Int.tmod_eq_emod_of_nonneg (Int.natCast_nonneg _)]
  rfl

end Go.Proofs.Ytdbfpdanoclgmaa
