/- Plain facts of chapter 4: rings may begin anywhere, and are balanced. -/
import Derived.Test.YtlaeckjfjleplaaG9
namespace Go.Proofs.Ytlaeckjfjleplaa
open Go.RowKit

section
variable {n : Int} {ps : List Pp} {xs : List Int}

/-- the ring, begun one pipe later -/
def laterI (xs : List Int) : List Int := xs.drop 1 ++ [xs.getD 0 0]
theorem later_len (h1 : 1 ≤ xs.length) : (laterI xs).length = xs.length := by simp [laterI]; omega
theorem later_at (h1 : 1 ≤ xs.length) {k : Nat} (hk : k < xs.length) : (laterI xs).getD k 0 = xs.getD ((k + 1) % xs.length) 0 := by
  unfold laterI
  by_cases h : k + 1 < xs.length
  · rw [Nat.mod_eq_of_lt h]
    simp only [List.getD_eq_getElem?_getD]
    rw [List.getElem?_append_left (by simp; omega), List.getElem?_drop, Nat.add_comm]
  · obtain rfl : k = xs.length - 1 := by omega
    rw [show xs.length - 1 + 1 = xs.length by omega, Nat.mod_self]
    simp only [List.getD_eq_getElem?_getD]
    rw [List.getElem?_append_right (by simp)]
    simp
theorem later_perm (h1 : 1 ≤ xs.length) : (laterI xs).Perm xs := by
  cases xs with
  | nil => simp at h1
  | cons x xs =>
    show (xs ++ [x]).Perm (x :: xs)
    exact List.perm_append_comm
theorem later_close (h1 : 1 ≤ xs.length) : closeB ps (laterI xs) = closeB ps xs := by
  rw [Bool.eq_iff_iff, close_iff, close_iff, later_len h1]
  constructor
  · intro h j hj
    rcases j with _ | j
    · have := h (xs.length - 1) (by omega)
      rw [later_at h1 (by omega), show xs.length - 1 + 1 = xs.length by omega, Nat.mod_self, later_at h1 (by omega)] at this
      exact this
    · have := h j (by omega)
      rw [later_at h1 (by omega), Nat.mod_eq_of_lt hj, later_at h1 hj] at this
      exact this
  · intro h k hk
    rw [later_at h1 hk, later_at h1 (Nat.mod_lt _ (by omega))]
    exact h ((k + 1) % xs.length) (Nat.mod_lt _ (by omega))
theorem ring_later (h1 : 1 ≤ xs.length) : ringB n ps (laterI xs) = ringB n ps xs := by
  by_cases hn : netOkB n ps = true
  · by_cases h5 : xs.length ≤ 5
    · have hpl : placesB ps (laterI xs) = placesB ps xs := by
        rw [Bool.eq_iff_iff, placesB, placesB, List.all_eq_true, List.all_eq_true]
        exact ⟨fun h x hx => h x ((later_perm h1).mem_iff.2 hx), fun h x hx => h x ((later_perm h1).mem_iff.1 hx)⟩
      by_cases hp : placesB ps xs = true
      · rw [ring_alt hn h1 h5 hp, ring_alt hn (by rw [later_len h1]; exact h1) (by rw [later_len h1]; exact h5) (by rw [hpl]; exact hp), later_close h1]
        congr 1
        rw [Bool.eq_iff_iff, decide_eq_true_eq, decide_eq_true_eq]
        exact ((later_perm h1).map _).nodup_iff
      · have hp' : placesB ps xs = false := by simpa using hp
        rw [ring_no3 hp', ring_no3 (by rw [hpl]; exact hp')]
    · have hw : withinB xs.length 1 5 = false := by simp [withinB]; omega
      rw [ring_no2 hw, ring_no2 (by rw [later_len h1]; exact hw)]
  · have hn' : netOkB n ps = false := by simpa using hn
    rw [ring_no1 hn', ring_no1 hn']

theorem ring_bal (h : ringB n ps xs = true) : balB n ps (onesL ps xs) = true := by
  have h' := h
  simp only [ringB, Bool.and_eq_true, decide_eq_true_eq] at h'
  obtain ⟨⟨hw, hc⟩, -⟩ := h'
  obtain ⟨hn, h1, h5, hp, hl⟩ := walk_parts hw
  have hlk : ∀ j, j < xs.length → frI ps (xs.getD j 0) = atN ps xs (frI ps (xs.getD 0 0)) j := by
    intro j hj
    rcases j with _ | j
    · rfl
    · exact link_iff.1 hl j hj
  have hch := chain_of xs _ (place_all hp) hlk
  rw [← nodes_last h1, hc] at hch
  have hz : ∀ v : Int, exc v ps (List.replicate ps.length 0) = 0 := fun v => by
    have := exc_zeros v ps
    rwa [show zeros ps = List.replicate ps.length 0 from rfl] at this
  simp only [balB, Bool.and_eq_true, List.all_eq_true, beq_iff_eq]
  refine ⟨ones_flow hn hp h5, fun k _ => ?_⟩
  rw [(ones_push hp h5).1, exc_pushL hn (by simp) hch, hz]
  omega
theorem ring_size (h : ringB n ps xs = true) : netOkB n ps = true ∧ 1 ≤ xs.length ∧ xs.length ≤ 5 := by
  simp only [ringB, Bool.and_eq_true] at h
  obtain ⟨hn, h1, h5, -, -⟩ := walk_parts h.1.1
  exact ⟨hn, h1, h5⟩
end

end Go.Proofs.Ytlaeckjfjleplaa
