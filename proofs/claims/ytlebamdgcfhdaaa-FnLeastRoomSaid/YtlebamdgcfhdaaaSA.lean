/- Contracts of the functions of chapter 2 in the model: LeastRoom. -/
import Derived.Test.YtlebamdgcfhdaaaS9
namespace Go.Proofs.Ytlebamdgcfhdaaa
open Go.RowKit

theorem leastR_yes' {n : Int} {ps : List Pp} {a b : Int} (h : endsB n ps a b = true) : leastR n ps a b = (leastI n ps a b, true) := by rw [leastR, if_pos h]
theorem leastR_no' {n : Int} {ps : List Pp} {a b : Int} (h : endsB n ps a b = false) : leastR n ps a b = (0, false) := by rw [leastR, if_neg (by simp [h])]

theorem shl_in {k : Int} (h0 : 0 ≤ k) (h1 : k ≤ 5) : IntKind.i64.wrap (2 ^ k.toNat) = 2 ^ k.toNat := by
  have h : k = 0 ∨ k = 1 ∨ k = 2 ∨ k = 3 ∨ k = 4 ∨ k = 5 := by omega
  rcases h with rfl | rfl | rfl | rfl | rfl | rfl <;> decide

theorem minL_add (ps : List Pp) (x : Int) (l : List Int) (t : Int) : minL ps x (l ++ [t]) = min (minL ps x l) (room t ps) := by
  rw [minL, List.foldl_append]; rfl

def betwF' (a b : Int) (k : Nat) : Bool := partsB (k : Int) a b

theorem bits_of (k : Nat) (a b : Int) :
    (((k : Int) / 2 ^ a.toNat).tmod 2 == 1) = decide (bitI k a = 1) ∧ (((k : Int) / 2 ^ b.toNat).tmod 2 == 0) = decide (bitI k b = 0) ∧ betwF' a b k = (decide (bitI k a = 1) && decide (bitI k b = 0)) := by
  rw [shr_bit (Int.natCast_nonneg k), shr_bit (Int.natCast_nonneg k)]
  refine ⟨beq_dec _ _, beq_dec _ _, ?_⟩
  have h2 := bitI_01 (k : Int) b
  rw [betwF', partsB, bitI_B, bitI_B]
  congr 1
  rw [Bool.eq_iff_iff]
  simp only [Bool.not_eq_true', decide_eq_false_iff_not, decide_eq_true_eq]
  omega

theorem betw_yes {k : Nat} {a b : Int} (h1 : ((k : Int) / 2 ^ a.toNat).tmod 2 = 1) (h2 : (((k : Int) / 2 ^ b.toNat).tmod 2 == 0) = true) : betwF' a b k = true := by
  obtain ⟨x1, x2, x3⟩ := bits_of k a b
  rw [x3, ← x1, ← x2, h2, h1]; rfl
theorem betw_no {k : Nat} {a b : Int} (h2 : (((k : Int) / 2 ^ b.toNat).tmod 2 == 0) = false) : betwF' a b k = false := by
  obtain ⟨x1, x2, x3⟩ := bits_of k a b
  rw [x3, ← x2, h2, Bool.and_false]
theorem betw_no' {k : Nat} {a b : Int} (h1 : ¬ ((k : Int) / 2 ^ a.toNat).tmod 2 = 1) : betwF' a b k = false := by
  obtain ⟨x1, x2, x3⟩ := bits_of k a b
  rw [x3, ← x1, beq_dec, decide_eq_false h1, Bool.false_and]

theorem min_if' (a b : Int) : (if b < a then b else a) = min a b := by split <;> omega

set_option maxHeartbeats 2000000 in
set_option maxRecDepth 20000 in
theorem specLeastRoom_any (n i j : Int) (v : Value) (ps : List Pp) (b : Nat) (w : World) (hp : Pipes w b v ps) :
    Calls Try.prog 43 #[.agg #[.int .i64 n, v], .int .i64 i, .int .i64 j] w fun e w' => e = .returned (.tuple #[.int .i64 (leastR n ps i j).1, .bool (leastR n ps i j).2]) ∧ Below w.heap.size w w' := by
  have hp0 := hp
  obtain ⟨A, c, rfl, hc1, hc2, hsm, -⟩ := hp.form
  unfold maxLen at hc2
  by_cases he : endsB n ps i j = true
  · obtain ⟨hnok, i0, i1, j0, j1, hij⟩ := ends_parts he
    have Hr := Lib.hid (leastR_yes' he)
    have n2 := (netOk_parts hnok).1
    have n5 := (netOk_parts hnok).2.1
    have Hok := Lib.hid hnok
    clear hij
    go_enter Try.func43, Try.ntmps43
    go_wp2_with (first
      | (go_at_call 79; ((with_reducible refine (ends_any _ _ _ _ ps b _ (hp0.keep (by (repeat (first | (with_reducible assumption) | (with_reducible exact Below.refl _ _) | ((with_reducible refine Below.alloc ?_ ?hsz _); (case hsz => (first | omega | (simp; done) | (simp; omega) | (simp at *; omega)))) | ((with_reducible refine Below.setCell ?_ ?hsz _); (case hsz => (first | omega | (simp; done) | (simp; omega) | (simp at *; omega)))) | (with_reducible refine Below.drew ?_) | (with_reducible refine below_drewN ?_ _) | ((with_reducible refine Below.trans ?_ (Below.mono (by with_reducible assumption) ?hsz)); (case hsz => (first | omega | (simp; done) | (simp; omega) | (simp at *; omega))))))))).mono ?_); rintro e w1 ⟨rfl, hb1⟩; obtain ⟨hc1, hf1, hz1⟩ := bcell hb1; (try simp at hz1); (try have hy1 : w.heap.size < w1.heap.size := by omega); (try have hy2 : w.heap.size + 1 < w1.heap.size := by omega); (try have hy3 : w.heap.size + 1 + 1 < w1.heap.size := by omega))))
    have hbw : Below w.heap.size w w1 := by (repeat (first | (with_reducible assumption) | (with_reducible exact Below.refl _ _) | ((with_reducible refine Below.alloc ?_ ?hsz _); (case hsz => (first | omega | (simp; done) | (simp; omega) | (simp at *; omega)))) | ((with_reducible refine Below.setCell ?_ ?hsz _); (case hsz => (first | omega | (simp; done) | (simp; omega) | (simp at *; omega)))) | (with_reducible refine Below.drew ?_) | (with_reducible refine below_drewN ?_ _) | ((with_reducible refine Below.trans ?_ (Below.mono (by with_reducible assumption) ?hsz)); (case hsz => (first | omega | (simp; done) | (simp; omega) | (simp at *; omega))))))
    have e0 : w1.cell? ⟨w.heap.size, 0, none⟩ = some (.int .i64 n) := by (first | ((repeat (first | (with_reducible assumption) | ((with_reducible refine (Below.cell (by with_reducible assumption) ?hsz).trans ?_); (case hsz => (first | omega | (simp; done) | (simp; omega) | (simp at *; omega)))) | ((with_reducible refine (World.cell?_alloc_lt _ _ _ ?hsz).trans ?_); (case hsz => (first | omega | (simp; done) | (simp; omega) | (simp at *; omega)))) | ((with_reducible refine (World.cell?_setCell_other _ _ _ _ ?hsz).trans ?_); (case hsz => (intro h; injection h with h1 h2; omega))))); done) | ((repeat (first | (with_reducible assumption) | ((with_reducible refine (Below.cell (by with_reducible assumption) ?hsz).trans ?_); (case hsz => (first | omega | (simp; done) | (simp; omega) | (simp at *; omega)))) | ((with_reducible refine (World.cell?_alloc_lt _ _ _ ?hsz).trans ?_); (case hsz => (first | omega | (simp; done) | (simp; omega) | (simp at *; omega)))) | ((with_reducible refine (World.cell?_setCell_other _ _ _ _ ?hsz).trans ?_); (case hsz => (intro h; injection h with h1 h2; omega))))); simp; done) | (go_simp; done))
    have e1 : w1.cell? ⟨w.heap.size, 1, none⟩ = some (.slice A ps.length c) := by (first | ((repeat (first | (with_reducible assumption) | ((with_reducible refine (Below.cell (by with_reducible assumption) ?hsz).trans ?_); (case hsz => (first | omega | (simp; done) | (simp; omega) | (simp at *; omega)))) | ((with_reducible refine (World.cell?_alloc_lt _ _ _ ?hsz).trans ?_); (case hsz => (first | omega | (simp; done) | (simp; omega) | (simp at *; omega)))) | ((with_reducible refine (World.cell?_setCell_other _ _ _ _ ?hsz).trans ?_); (case hsz => (intro h; injection h with h1 h2; omega))))); done) | ((repeat (first | (with_reducible assumption) | ((with_reducible refine (Below.cell (by with_reducible assumption) ?hsz).trans ?_); (case hsz => (first | omega | (simp; done) | (simp; omega) | (simp at *; omega)))) | ((with_reducible refine (World.cell?_alloc_lt _ _ _ ?hsz).trans ?_); (case hsz => (first | omega | (simp; done) | (simp; omega) | (simp at *; omega)))) | ((with_reducible refine (World.cell?_setCell_other _ _ _ _ ?hsz).trans ?_); (case hsz => (intro h; injection h with h1 h2; omega))))); simp; done) | (go_simp; done))
    have hz1' : w.heap.size < w1.heap.size := by omega
    clear hc1 hf1 hb1
    have hsi := shl_in (k := i) i0 (by omega)
    have hsi0 : (0 : Int) ≤ 2 ^ i.toNat := Int.le_of_lt (Int.pow_pos (by decide))
    go_region_held3 (fun w' => w'.cell? ⟨w.heap.size, 0, none⟩ = some (.int .i64 n) ∧ w'.cell? ⟨w.heap.size, 1, none⟩ = some (.slice A ps.length c))
      (first | go_keep | (go_split_ands; refine ⟨?_, ?_⟩ <;> (repeat (first | (with_reducible assumption) | ((with_reducible refine (Below.cell (by with_reducible assumption) ?hsz).trans ?_); (case hsz => (first | omega | (simp; done) | (simp; omega) | (simp at *; omega)))) | ((with_reducible refine (World.cell?_alloc_lt _ _ _ ?hsz).trans ?_); (case hsz => (first | omega | (simp; done) | (simp; omega) | (simp at *; omega)))) | ((with_reducible refine (World.cell?_setCell_other _ _ _ _ ?hsz).trans ?_); (case hsz => (intro h; injection h with h1 h2; omega)))))))
      ((go_at_call 80; (with_reducible refine (specRoom_any n _ _ ps b _ (hp0.keep (by (repeat (first | (with_reducible assumption) | (with_reducible exact Below.refl _ _) | ((with_reducible refine Below.alloc ?_ ?hsz _); (case hsz => (first | omega | (simp; done) | (simp; omega) | (simp at *; omega)))) | ((with_reducible refine Below.setCell ?_ ?hsz _); (case hsz => (first | omega | (simp; done) | (simp; omega) | (simp at *; omega)))) | (with_reducible refine Below.drew ?_) | (with_reducible refine below_drewN ?_ _) | ((with_reducible refine Below.trans ?_ (Below.mono (by with_reducible assumption) ?hsz)); (case hsz => (first | omega | (simp; done) | (simp; omega) | (simp at *; omega)))))))) Hok.out hsi0).mono ?_); rintro e w4 ⟨rfl, hb4⟩; obtain ⟨hc4, hf4, hz4⟩ := bcell hb4))
    have hbw4 : Below w.heap.size w w4 := by (repeat (first | (with_reducible assumption) | (with_reducible exact Below.refl _ _) | ((with_reducible refine Below.alloc ?_ ?hsz _); (case hsz => (first | omega | (simp; done) | (simp; omega) | (simp at *; omega)))) | ((with_reducible refine Below.setCell ?_ ?hsz _); (case hsz => (first | omega | (simp; done) | (simp; omega) | (simp at *; omega)))) | (with_reducible refine Below.drew ?_) | (with_reducible refine below_drewN ?_ _) | ((with_reducible refine Below.trans ?_ (Below.mono (by with_reducible assumption) ?hsz)); (case hsz => (first | omega | (simp; done) | (simp; omega) | (simp at *; omega))))))
    have hsz4 : w1.heap.size ≤ w4.heap.size := by (try simp at hz4); omega
    have e04 : w4.cell? ⟨w.heap.size, 0, none⟩ = some (.int .i64 n) := (hc4 _ _ (by (first | omega | (simp; done) | (simp; omega) | (simp at *; omega)))).trans e0
    have e14 : w4.cell? ⟨w.heap.size, 1, none⟩ = some (.slice A ps.length c) := (hc4 _ _ (by (first | omega | (simp; done) | (simp; omega) | (simp at *; omega)))).trans e1
    have hz4' : w.heap.size < w4.heap.size := by omega
    clear hc4 hf4 hb4 hz4 e0 e1 hbw hsi hsi0
    generalize hx : room (2 ^ i.toNat) ps = x
    have Hleast : Hid (leastI n ps i j = minL ps x (numW (2 ^ n.toNat) (betwF' i j))) := Lib.hid (by rw [← hx]; rfl)
    clear hx
    have hsn := shl_in (k := n) (by omega) n5
    obtain ⟨cnt, hcnt, hci⟩ : ∃ cnt : Nat, cnt = 2 ^ n.toNat ∧ (2 : Int) ^ n.toNat = (cnt : Int) := ⟨_, rfl, by simp⟩
    have hc32 : cnt ≤ 32 := by rw [hcnt]; exact Nat.le_trans (Nat.pow_le_pow_right (by omega) (show n.toNat ≤ 5 by omega)) (by decide)
    rw [← hcnt] at Hleast
    rw [hci] at hsn
    clear hcnt
    go_wp2
    go_loopw [9, 8] (fun t m wr => ∃ k : Nat, k ≤ cnt ∧ t = .int .i64 k ∧ m = .int .i64 (minL ps x (numW k (betwF' i j))) ∧ Below w4.heap.size w4 wr) (fun t _ _ => cnt - (intOf t).toNat)
    case atStart => exact ⟨0, by omega, rfl, rfl, Below.refl _ _⟩
    case round =>
      obtain ⟨k, hk, rfl, rfl, hb⟩ := hrel
      have hbwr : Below w.heap.size w wr := by (repeat (first | (with_reducible assumption) | (with_reducible exact Below.refl _ _) | ((with_reducible refine Below.alloc ?_ ?hsz _); (case hsz => (first | omega | (simp; done) | (simp; omega) | (simp at *; omega)))) | ((with_reducible refine Below.setCell ?_ ?hsz _); (case hsz => (first | omega | (simp; done) | (simp; omega) | (simp at *; omega)))) | (with_reducible refine Below.drew ?_) | (with_reducible refine below_drewN ?_ _) | ((with_reducible refine Below.trans ?_ (Below.mono (by with_reducible assumption) ?hsz)); (case hsz => (first | omega | (simp; done) | (simp; omega) | (simp at *; omega))))))
      have d0 := (hb.cell (p := ⟨w.heap.size, 0, none⟩) hz4').trans e04
      have d1 := (hb.cell (p := ⟨w.heap.size, 1, none⟩) hz4').trans e14
      have hzr := hb.size
      by_cases hlt : k < cnt
      · go_wp2_with (first
          | (go_at_call 80; ((with_reducible refine (specRoom_any n k _ ps b _ (hp0.keep (by (repeat (first | (with_reducible assumption) | (with_reducible exact Below.refl _ _) | ((with_reducible refine Below.alloc ?_ ?hsz _); (case hsz => (first | omega | (simp; done) | (simp; omega) | (simp at *; omega)))) | ((with_reducible refine Below.setCell ?_ ?hsz _); (case hsz => (first | omega | (simp; done) | (simp; omega) | (simp at *; omega)))) | (with_reducible refine Below.drew ?_) | (with_reducible refine below_drewN ?_ _) | ((with_reducible refine Below.trans ?_ (Below.mono (by with_reducible assumption) ?hsz)); (case hsz => (first | omega | (simp; done) | (simp; omega) | (simp at *; omega)))))))) Hok.out (Int.natCast_nonneg k)).mono ?_); rintro e w1 ⟨rfl, hb1⟩; obtain ⟨hc1, hf1, hz1⟩ := bcell hb1; (try simp at hz1); (try have hy1 : w.heap.size < w1.heap.size := by omega); (try have hy2 : w.heap.size + 1 < w1.heap.size := by omega); (try have hy3 : w.heap.size + 1 + 1 < w1.heap.size := by omega))))
        · have hy : betwF' i j k = true := betw_yes (by assumption) (by assumption)
          go_roundw
          case rel => exact ⟨k + 1, by omega, by go_num, by rw [numW_yes hy, minL_add]; exact int_eq' (min_if' _ _), by (repeat (first | (with_reducible assumption) | (with_reducible exact Below.refl _ _) | ((with_reducible refine Below.alloc ?_ ?hsz _); (case hsz => (first | omega | (simp; done) | (simp; omega) | (simp at *; omega)))) | ((with_reducible refine Below.setCell ?_ ?hsz _); (case hsz => (first | omega | (simp; done) | (simp; omega) | (simp at *; omega)))) | (with_reducible refine Below.drew ?_) | (with_reducible refine below_drewN ?_ _) | ((with_reducible refine Below.trans ?_ (Below.mono (by with_reducible assumption) ?hsz)); (case hsz => (first | omega | (simp; done) | (simp; omega) | (simp at *; omega))))))⟩
          case measure => simp [intOf]; omega
        · have hy : betwF' i j k = false := betw_no (by assumption)
          go_roundw
          case rel => exact ⟨k + 1, by omega, by go_num, by rw [numW_no hy], by (repeat (first | (with_reducible assumption) | (with_reducible exact Below.refl _ _) | ((with_reducible refine Below.alloc ?_ ?hsz _); (case hsz => (first | omega | (simp; done) | (simp; omega) | (simp at *; omega)))) | ((with_reducible refine Below.setCell ?_ ?hsz _); (case hsz => (first | omega | (simp; done) | (simp; omega) | (simp at *; omega)))) | (with_reducible refine Below.drew ?_) | (with_reducible refine below_drewN ?_ _) | ((with_reducible refine Below.trans ?_ (Below.mono (by with_reducible assumption) ?hsz)); (case hsz => (first | omega | (simp; done) | (simp; omega) | (simp at *; omega))))))⟩
          case measure => simp [intOf]; omega
        · have hy : betwF' i j k = false := betw_no' (by assumption)
          go_roundw
          case rel => exact ⟨k + 1, by omega, by go_num, by rw [numW_no hy], by (repeat (first | (with_reducible assumption) | (with_reducible exact Below.refl _ _) | ((with_reducible refine Below.alloc ?_ ?hsz _); (case hsz => (first | omega | (simp; done) | (simp; omega) | (simp at *; omega)))) | ((with_reducible refine Below.setCell ?_ ?hsz _); (case hsz => (first | omega | (simp; done) | (simp; omega) | (simp at *; omega)))) | (with_reducible refine Below.drew ?_) | (with_reducible refine below_drewN ?_ _) | ((with_reducible refine Below.trans ?_ (Below.mono (by with_reducible assumption) ?hsz)); (case hsz => (first | omega | (simp; done) | (simp; omega) | (simp at *; omega))))))⟩
          case measure => simp [intOf]; omega
      · go_wp2
        have hk2 : k = cnt := by omega
        subst hk2
        go_ret2
        exact ⟨ret_ib (by rw [Hr.out, Hleast.out]), by (repeat (first | (with_reducible assumption) | (with_reducible exact Below.refl _ _) | ((with_reducible refine Below.alloc ?_ ?hsz _); (case hsz => (first | omega | (simp; done) | (simp; omega) | (simp at *; omega)))) | ((with_reducible refine Below.setCell ?_ ?hsz _); (case hsz => (first | omega | (simp; done) | (simp; omega) | (simp at *; omega)))) | (with_reducible refine Below.drew ?_) | (with_reducible refine below_drewN ?_ _) | ((with_reducible refine Below.trans ?_ (Below.mono (by with_reducible assumption) ?hsz)); (case hsz => (first | omega | (simp; done) | (simp; omega) | (simp at *; omega))))))⟩
  · have he' : endsB n ps i j = false := by simpa using he
    have Hr := Lib.hid (leastR_no' he')
    clear he
    go_enter Try.func43, Try.ntmps43
    go_wp2_with (first
      | (go_at_call 79; ((with_reducible refine (ends_any _ _ _ _ ps b _ (hp0.keep (by (repeat (first | (with_reducible assumption) | (with_reducible exact Below.refl _ _) | ((with_reducible refine Below.alloc ?_ ?hsz _); (case hsz => (first | omega | (simp; done) | (simp; omega) | (simp at *; omega)))) | ((with_reducible refine Below.setCell ?_ ?hsz _); (case hsz => (first | omega | (simp; done) | (simp; omega) | (simp at *; omega)))) | (with_reducible refine Below.drew ?_) | (with_reducible refine below_drewN ?_ _) | ((with_reducible refine Below.trans ?_ (Below.mono (by with_reducible assumption) ?hsz)); (case hsz => (first | omega | (simp; done) | (simp; omega) | (simp at *; omega))))))))).mono ?_); rintro e w1 ⟨rfl, hb1⟩; obtain ⟨hc1, hf1, hz1⟩ := bcell hb1; (try simp at hz1); (try have hy1 : w.heap.size < w1.heap.size := by omega); (try have hy2 : w.heap.size + 1 < w1.heap.size := by omega); (try have hy3 : w.heap.size + 1 + 1 < w1.heap.size := by omega))))
    go_ret2
    exact ⟨ret_ib (by rw [Hr.out]), by (repeat (first | (with_reducible assumption) | (with_reducible exact Below.refl _ _) | ((with_reducible refine Below.alloc ?_ ?hsz _); (case hsz => (first | omega | (simp; done) | (simp; omega) | (simp at *; omega)))) | ((with_reducible refine Below.setCell ?_ ?hsz _); (case hsz => (first | omega | (simp; done) | (simp; omega) | (simp at *; omega)))) | (with_reducible refine Below.drew ?_) | (with_reducible refine below_drewN ?_ _) | ((with_reducible refine Below.trans ?_ (Below.mono (by with_reducible assumption) ?hsz)); (case hsz => (first | omega | (simp; done) | (simp; omega) | (simp at *; omega))))))⟩

end Go.Proofs.Ytlebamdgcfhdaaa
