/- Chapter 9, plain: what the promises say of lengths, sums and squares. -/
import Derived.Test.YtaohjhehlkeckaaB1
namespace Go.Proofs.Ytaohjhehlkeckaa
open Go.RowKit

def sumH (ts : List Mk) : Int := (ts.map fun m => m.h).sum
def sqH (ts : List Mk) : Int := (ts.map fun m => m.h * m.h).sum
theorem sumH_snoc (ts : List Mk) (k : Nat) (hk : k < ts.length) : sumH (ts.take (k + 1)) = sumH (ts.take k) + ts[k].h := by
  rw [List.take_succ_eq_append_getElem hk]; simp only [sumH, List.map_append, List.sum_append, List.map_cons, List.map_nil, List.sum_cons, List.sum_nil, Int.add_zero]
theorem sqH_snoc (ts : List Mk) (k : Nat) (hk : k < ts.length) : sqH (ts.take (k + 1)) = sqH (ts.take k) + ts[k].h * ts[k].h := by
  rw [List.take_succ_eq_append_getElem hk]; simp only [sqH, List.map_append, List.sum_append, List.map_cons, List.map_nil, List.sum_cons, List.sum_nil, Int.add_zero]
theorem sumH_append (ts us : List Mk) : sumH (ts ++ us) = sumH ts + sumH us := by simp [sumH]
theorem sqH_append (ts us : List Mk) : sqH (ts ++ us) = sqH ts + sqH us := by simp [sqH]
theorem mark_h {m : Mk} (h : markB m = true) : 0 ≤ m.h ∧ m.h ≤ 4 := by
  obtain ⟨k, a, b⟩ := m
  show 0 ≤ a ∧ a ≤ 4
  unfold markB at h
  simp only at h
  split at h
  · simp at h; exact h.1
  · split at h
    · simp at h; omega
    · cases h
theorem sum_bds {ts : List Mk} (h : ∀ m ∈ ts, markB m = true) : (0 ≤ sumH ts ∧ sumH ts ≤ 4 * ts.length) ∧ 0 ≤ sqH ts ∧ sqH ts ≤ 16 * ts.length := by
  induction ts with
  | nil => simp [sumH, sqH]
  | cons m t ih =>
    have h1 := mark_h (h m (by simp))
    have h2 := ih fun x hx => h x (by simp [hx])
    have h3 : 0 ≤ m.h * m.h := Int.mul_nonneg h1.1 h1.1
    have h4 : m.h * m.h ≤ 4 * 4 := Int.mul_le_mul h1.2 h1.2 h1.1 (by omega)
    simp only [sumH, sqH, List.map_cons, List.sum_cons, List.length_cons] at h2 ⊢
    omega
theorem Tm.long_sum (T : Tm) (hg : T.good) : T.long ≤ sumH T.marks := by
  induction T with
  | pipe h p => simp [Tm.long, Tm.marks, sumH]
  | two s a b iha ihb =>
    have h1 := iha hg.1; have h2 := ihb hg.2
    have b1 := a.long_bd hg.1; have b2 := b.long_bd hg.2
    simp only [Tm.marks, sumH_append]
    have h0 : sumH [(⟨kindI s, 0, 0⟩ : Mk)] = 0 := by simp [sumH]
    rw [h0]
    cases s <;> simp [Tm.long] <;> omega
theorem Tm.long_carry (T : Tm) (hg : T.good) : T.long * T.carry ≤ sqH T.marks := by
  induction T with
  | pipe h p => simp [Tm.long, Tm.carry, Tm.marks, sqH]
  | two s a b iha ihb =>
    have h1 := iha hg.1; have h2 := ihb hg.2
    have b1 := a.long_bd hg.1; have b2 := b.long_bd hg.2
    have c1 := a.carry_bd hg.1; have c2 := b.carry_bd hg.2
    simp only [Tm.marks, sqH_append]
    have h0 : sqH [(⟨kindI s, 0, 0⟩ : Mk)] = 0 := by simp [sqH]
    rw [h0]
    cases s
    · simp only [Tm.long, Tm.carry, Bool.false_eq_true, if_false]
      have e1 : a.long * min a.carry b.carry ≤ a.long * a.carry := Int.mul_le_mul_of_nonneg_left (by omega) b1.1
      have e2 : b.long * min a.carry b.carry ≤ b.long * b.carry := Int.mul_le_mul_of_nonneg_left (by omega) b2.1
      rw [Int.add_mul]
      omega
    · simp only [Tm.long, Tm.carry, if_true]
      have e1 : min a.long b.long * a.carry ≤ a.long * a.carry := Int.mul_le_mul_of_nonneg_right (by omega) c1.1
      have e2 : min a.long b.long * b.carry ≤ b.long * b.carry := Int.mul_le_mul_of_nonneg_right (by omega) c2.1
      rw [Int.mul_add]
      omega
theorem dual_facts {ts : List Mk} (h : dualB ts = true) : termB (dualL ts) = true ∧ longN (dualL ts) = carriesN ts ∧ carriesN (dualL ts) = longN ts ∧ dualB (dualL ts) = true ∧ dualL (dualL ts) = ts := by
  have hl := dualL_yes h
  have h' := h
  simp only [dualB, Bool.and_eq_true] at h'
  obtain ⟨h1, h2⟩ := h'
  obtain ⟨hT, hg, -, -⟩ := term_of h1
  have hm : ts.map dualM = (tmOf ts).dual.marks := by rw [Tm.dual_marks, ← hT]
  have ht : tmOf (ts.map dualM) = (tmOf ts).dual := by rw [hm, tmOf_marks _ (Tm.dual_good _ hg)]
  have hdd : (ts.map dualM).map dualM = ts := by rw [hm, ← Tm.dual_marks, Tm.dual_dual, ← hT]
  have h4 : dualB (ts.map dualM) = true := by rw [dualB, h2, hdd, h1]; rfl
  rw [hl]
  refine ⟨h2, ?_, ?_, h4, ?_⟩
  · simp only [longN, carriesN, h1, h2, if_true, ht, Tm.dual_long]
  · simp only [longN, carriesN, h1, h2, if_true, ht, Tm.dual_long]
  · rw [dualL_yes h4, hdd]

end Go.Proofs.Ytaohjhehlkeckaa
