/- Plain facts. -/
import Derived.Test.YtphbmlephldaaaaSF
import Derived.Test.YtphbmlephldaaaaMG
import Derived.IntWalk
import Derived.Deep.RegionHeld3
/- Contracts of the functions of chapter 2 in the model: SideOk, how a pipe leads. -/
namespace Go.Proofs.Ytphbmlephldaaaa
open Go.RowKit

theorem side_n' {n : Int} {ps : List Pp} (h : netOkB n ps = true) : n = 2 ∨ n = 3 ∨ n = 4 ∨ n = 5 := by have := netOk_parts h; omega

set_option maxHeartbeats 400000 in
set_option maxRecDepth 20000 in
theorem ends_any (n i j : Int) (v : Value) (ps : List Pp) (b : Nat) (w : World) (hp : Pipes w b v ps) :
    Calls Try.prog 95 #[.agg #[.int .i64 n, v], .int .i64 i, .int .i64 j] w fun e w' => e = .returned (.bool (endsB n ps i j)) ∧ Below w.heap.size w w' := by
  by_cases hok : netOkB n ps = true
  · have hn := side_n' hok
    have Hok := Lib.hid hok
    have hb1 : 2 ≤ n := by omega
    have hb2 : n ≤ 5 := by omega
    clear hn
    go_enter Try.func95, Try.ntmps95
    go_wp2_with (first
      | (go_at_call 58; ((with_reducible refine (specNetOk_any _ v ps b _ (hp.keep (by (repeat (first | (with_reducible assumption) | (with_reducible exact Below.refl _ _) | ((with_reducible refine Below.alloc ?_ ?hsz _); (case hsz => (first | omega | (simp; done) | (simp; omega) | (simp at *; omega)))) | ((with_reducible refine Below.setCell ?_ ?hsz _); (case hsz => (first | omega | (simp; done) | (simp; omega) | (simp at *; omega)))) | (with_reducible refine Below.drew ?_) | (with_reducible refine below_drewN ?_ _) | ((with_reducible refine Below.trans ?_ (Below.mono (by with_reducible assumption) ?hsz)); (case hsz => (first | omega | (simp; done) | (simp; omega) | (simp at *; omega))))))))).mono ?_); rintro e w1 ⟨rfl, hb1⟩; obtain ⟨hc1, hf1, hz1⟩ := bcell hb1; (try simp at hz1); (try have hy1 : w.heap.size < w1.heap.size := by omega); (try have hy2 : w.heap.size + 1 < w1.heap.size := by omega); (try have hy3 : w.heap.size + 1 + 1 < w1.heap.size := by omega)))
      | (go_at_call 84; ((with_reducible refine (l1In_any _ _ _ _).mono ?_); rintro e w1 ⟨rfl, rfl⟩)))
    all_goals (go_ret; exact ⟨ret_bool (by simp_all [endsB, bne_dec]), by (repeat (first | (with_reducible assumption) | (with_reducible exact Below.refl _ _) | ((with_reducible refine Below.alloc ?_ ?hsz _); (case hsz => (first | omega | (simp; done) | (simp; omega) | (simp at *; omega)))) | ((with_reducible refine Below.setCell ?_ ?hsz _); (case hsz => (first | omega | (simp; done) | (simp; omega) | (simp at *; omega)))) | (with_reducible refine Below.drew ?_) | (with_reducible refine below_drewN ?_ _) | ((with_reducible refine Below.trans ?_ (Below.mono (by with_reducible assumption) ?hsz)); (case hsz => (first | omega | (simp; done) | (simp; omega) | (simp at *; omega))))))⟩)
  · have hok' : netOkB n ps = false := by simpa using hok
    have Hb : Hid (endsB n ps i j = false) := Lib.hid (by simp [endsB, hok'])
    clear hok
    go_enter Try.func95, Try.ntmps95
    go_wp2_with (first
      | (go_at_call 58; ((with_reducible refine (specNetOk_any _ v ps b _ (hp.keep (by (repeat (first | (with_reducible assumption) | (with_reducible exact Below.refl _ _) | ((with_reducible refine Below.alloc ?_ ?hsz _); (case hsz => (first | omega | (simp; done) | (simp; omega) | (simp at *; omega)))) | ((with_reducible refine Below.setCell ?_ ?hsz _); (case hsz => (first | omega | (simp; done) | (simp; omega) | (simp at *; omega)))) | (with_reducible refine Below.drew ?_) | (with_reducible refine below_drewN ?_ _) | ((with_reducible refine Below.trans ?_ (Below.mono (by with_reducible assumption) ?hsz)); (case hsz => (first | omega | (simp; done) | (simp; omega) | (simp at *; omega))))))))).mono ?_); rintro e w1 ⟨rfl, hb1⟩; obtain ⟨hc1, hf1, hz1⟩ := bcell hb1; (try simp at hz1); (try have hy1 : w.heap.size < w1.heap.size := by omega); (try have hy2 : w.heap.size + 1 < w1.heap.size := by omega); (try have hy3 : w.heap.size + 1 + 1 < w1.heap.size := by omega))))
    go_ret
    exact ⟨ret_bool Hb.out.symm, by (repeat (first | (with_reducible assumption) | (with_reducible exact Below.refl _ _) | ((with_reducible refine Below.alloc ?_ ?hsz _); (case hsz => (first | omega | (simp; done) | (simp; omega) | (simp at *; omega)))) | ((with_reducible refine Below.setCell ?_ ?hsz _); (case hsz => (first | omega | (simp; done) | (simp; omega) | (simp at *; omega)))) | (with_reducible refine Below.drew ?_) | (with_reducible refine below_drewN ?_ _) | ((with_reducible refine Below.trans ?_ (Below.mono (by with_reducible assumption) ?hsz)); (case hsz => (first | omega | (simp; done) | (simp; omega) | (simp at *; omega))))))⟩

def bitI (s k : Int) : Int := s / 2 ^ k.toNat % 2
/-- how a pipe leads: 1 from the side to the others, -1 back, else 0 -/
def overI (s : Int) (p : Pp) : Int := bitI s p.fr - bitI s p.to

theorem bitI_01 (s k : Int) : 0 ≤ bitI s k ∧ bitI s k ≤ 1 := by unfold bitI; generalize s / 2 ^ k.toNat = x; omega
theorem bitI_B (s k : Int) : bitB s k = decide (bitI s k = 1) := rfl

theorem over_out {s : Int} {p : Pp} (h : partsB s p.fr p.to = true) : overI s p = 1 := by
  have h1 := bitI_01 s p.fr
  have h2 := bitI_01 s p.to
  simp only [partsB, bitI_B, Bool.and_eq_true, Bool.not_eq_true', decide_eq_true_eq, decide_eq_false_iff_not] at h
  unfold overI; omega
theorem over_back {s : Int} {p : Pp} (h : partsB s p.to p.fr = true) : overI s p = -1 := by
  have h1 := bitI_01 s p.fr
  have h2 := bitI_01 s p.to
  simp only [partsB, bitI_B, Bool.and_eq_true, Bool.not_eq_true', decide_eq_true_eq, decide_eq_false_iff_not] at h
  unfold overI; omega
theorem over_no {s : Int} {p : Pp} (h : partsB s p.fr p.to = false) (h' : partsB s p.to p.fr = false) : overI s p = 0 := by
  have h1 := bitI_01 s p.fr
  have h2 := bitI_01 s p.to
  simp only [partsB, bitI_B, Bool.and_eq_false_iff, Bool.not_eq_false', decide_eq_true_eq, decide_eq_false_iff_not] at h h'
  unfold overI; omega

theorem shr_bit {s k : Int} (h4 : 0 ≤ s) : (s / 2 ^ k.toNat).tmod 2 = bitI s k := by
  rw [Int.tmod_eq_emod_of_nonneg (Int.ediv_nonneg h4 (Int.le_of_lt (Int.pow_pos (by decide)))), bitI]

set_option maxHeartbeats 400000 in
set_option maxRecDepth 20000 in
theorem over_any (s : Int) (p : Pp) (w : World) (h0 : 0 ≤ p.fr ∧ p.fr ≤ 4 ∧ 0 ≤ p.to ∧ p.to ≤ 4) (h4 : 0 ≤ s) :
    Calls Try.prog 103 #[.agg #[.int .i64 p.fr, .int .i64 p.to, .int .i64 p.le, .int .i64 p.mo, .int .i64 p.co], .int .i64 s] w fun e w' => e = .returned (.int .i64 (overI s p)) ∧ Below w.heap.size w w' := by
  obtain ⟨a0, a1, b0, b1⟩ := h0
  have F1 := Lib.hid (shr_bit (k := p.fr) h4)
  have F2 := Lib.hid (shr_bit (k := p.to) h4)
  have X1 := Lib.hid (bitI_01 s p.fr)
  have X2 := Lib.hid (bitI_01 s p.to)
  go_enter Try.func103, Try.ntmps103
  go_wp2
  go_quiet (fail)
  go_wp2
  go_ret
  exact ⟨ret_int (by rw [F1.out, F2.out]; exact IntWalk.wrap64_in _ (by have := X1.out; have := X2.out; omega)), by (repeat (first | (with_reducible assumption) | (with_reducible exact Below.refl _ _) | ((with_reducible refine Below.alloc ?_ ?hsz _); (case hsz => (first | omega | (simp; done) | (simp; omega) | (simp at *; omega)))) | ((with_reducible refine Below.setCell ?_ ?hsz _); (case hsz => (first | omega | (simp; done) | (simp; omega) | (simp at *; omega)))) | (with_reducible refine Below.drew ?_) | (with_reducible refine below_drewN ?_ _) | ((with_reducible refine Below.trans ?_ (Below.mono (by with_reducible assumption) ?hsz)); (case hsz => (first | omega | (simp; done) | (simp; omega) | (simp at *; omega))))))⟩

end Go.Proofs.Ytphbmlephldaaaa

/- Contracts of the functions of chapter 2 in the model: AcrossOf. -/
namespace Go.Proofs.Ytphbmlephldaaaa
open Go.RowKit


theorem over_at (s r : Int) (p : Pp) (w : World) (h0 : 0 ≤ p.fr ∧ p.fr ≤ 4 ∧ 0 ≤ p.to ∧ p.to ≤ 4) (h4 : 0 ≤ s) (hr : overI s p = r) :
    Calls Try.prog 103 #[.agg #[.int .i64 p.fr, .int .i64 p.to, .int .i64 p.le, .int .i64 p.mo, .int .i64 p.co], .int .i64 s] w fun e w' => e = .returned (.int .i64 r) ∧ Below w.heap.size w w' :=
  (over_any s p w h0 h4).mono fun _ _ h => ⟨by rw [h.1, hr], h.2⟩

theorem over_acT (s : Int) (p : Pp) (o b : Int) : overI s p = 1 ∧ acT s p o b = o ∨ overI s p = -1 ∧ acT s p o b = -b ∨ overI s p = 0 ∧ acT s p o b = 0 := by
  by_cases h : partsB s p.fr p.to = true
  · exact .inl ⟨over_out h, acT_out h⟩
  · have h' : partsB s p.fr p.to = false := by simpa using h
    by_cases h1 : partsB s p.to p.fr = true
    · exact .inr (.inl ⟨over_back h1, acT_back h' h1⟩)
    · have h1' : partsB s p.to p.fr = false := by simpa using h1
      exact .inr (.inr ⟨over_no h' h1', acT_no h' h1'⟩)

theorem int_eq' {a b : Int} (h : a = b) : Value.int .i64 a = .int .i64 b := by rw [h]

end Go.Proofs.Ytphbmlephldaaaa
