/- Contracts of the draws: the reader of a code. -/
import Derived.Test.YtmgpekdhcghabaaGreatGR7
import Derived.Test.YtmgpekdhcghabaaGreatGR5
namespace Go.Proofs.YtmgpekdhcghabaaGreat
open Go.RowKit

def Rd (w : World) (rg : Nat) (A : Option Addr) (m c K : Nat) : Prop :=
  rg < w.heap.size ∧ w.cell? ⟨rg, 0, none⟩ = some (.slice A m c) ∧ w.frozen? ⟨rg, 1, none⟩ = false ∧ (∃ p : Nat, w.cell? ⟨rg, 1, none⟩ = some (.int .i64 p) ∧ p ≤ K) ∧ m ≤ c ∧ c ≤ maxLen ∧ m ≤ 2000 ∧
    ∀ k, k < m → ∃ g o x, A = some ⟨g, o, none⟩ ∧ g < rg ∧ w.cell? ⟨g, o + k, none⟩ = some (.int .u8 x) ∧ 0 ≤ x ∧ x ≤ 255

theorem Rd.more {w : World} {rg m c K K' : Nat} {A : Option Addr} (h : Rd w rg A m c K) (hK : K ≤ K') : Rd w rg A m c K' := by
  obtain ⟨h1, h2, h3, ⟨p, h4, h5⟩, h6⟩ := h
  exact ⟨h1, h2, h3, ⟨p, h4, by omega⟩, h6⟩
theorem Rd.keep {w w' : World} {rg m c K : Nat} {A : Option Addr} (h : Rd w rg A m c K) (hb : Below w.heap.size w w') : Rd w' rg A m c K := by
  obtain ⟨h1, h2, h3, ⟨p, h4, h5⟩, h6, h7, h8, h9⟩ := h
  refine ⟨Nat.lt_of_lt_of_le h1 hb.size, (hb.cell (p := ⟨rg, _, none⟩) h1).trans h2, (hb.frozen (p := ⟨rg, _, none⟩) h1).trans h3, ⟨p, (hb.cell (p := ⟨rg, _, none⟩) h1).trans h4, h5⟩, h6, h7, h8, fun k hk => ?_⟩
  obtain ⟨g, o, x, hA, hg, hc, hx⟩ := h9 k hk
  exact ⟨g, o, x, hA, hg, (hb.cell (p := ⟨g, _, none⟩) (Nat.lt_trans hg h1)).trans hc, hx⟩

theorem Rd.drewN {w : World} {rg m c K : Nat} {A : Option Addr} (h : Rd w rg A m c K) (k : Nat) : Rd (w.drewN k) rg A m c K := h

theorem Rd.drew {w : World} {rg m c K : Nat} {A : Option Addr} (h : Rd w rg A m c K) : Rd w.drew rg A m c K := h

theorem Rd.set {w : World} {rg m c K : Nat} {A : Option Addr} (h : Rd w rg A m c K) {p : Addr} (hp : rg < p.block) (v : Value) : Rd (w.setCell p v) rg A m c K := by
  obtain ⟨h1, h2, h3, ⟨q, h4, h5⟩, h6, h7, h8, h9⟩ := h
  have hne : ∀ b o, b ≤ rg → (w.setCell p v).cell? ⟨b, o, none⟩ = w.cell? ⟨b, o, none⟩ := fun b o hb => World.cell?_setCell_other _ _ _ _ (by rintro rfl; exact absurd hp (by simpa using hb))
  refine ⟨by simpa using h1, (hne _ _ (Nat.le_refl _)).trans h2, by simpa using h3, ⟨q, (hne _ _ (Nat.le_refl _)).trans h4, h5⟩, h6, h7, h8, fun k hk => ?_⟩
  obtain ⟨g, o, x, hA, hg, hc, hx⟩ := h9 k hk
  exact ⟨g, o, x, hA, hg, (hne _ _ (Nat.le_of_lt hg)).trans hc, hx⟩

/-- what pick leaves -/
def Picked (w : World) (rg : Nat) (A : Option Addr) (m c K : Nat) (n : Int) (e : Ending) (w' : World) : Prop :=
  ∃ x : Int, e = .returned (.int .i64 x) ∧ 0 ≤ x ∧ x < n ∧ Rd w' rg A m c (K + 1) ∧ w.grownBy w' (some rg) ∧ w'.heap.size = w.heap.size

theorem mod_cast7 (p m : Nat) : ((p : Int) * 7 + 3) % (m : Int) = ((p * 7 + 3) % m : Nat) := by
  rw [Int.natCast_emod]
  rfl

theorem div_cast (p m : Nat) : (p : Int) / (m : Int) = (p / m : Nat) := by rw [Int.natCast_ediv]

theorem xor_nn (z : Int) (h0 : 0 ≤ z) (h1 : z ≤ 1000000000) : 0 ≤ bits .xor .i64 z (z / 64) := by
  obtain ⟨a, rfl⟩ := Int.eq_ofNat_of_zero_le h0
  have e : ((a : Int) / 64) = ((a / 64 : Nat) : Int) := by omega
  have hx : ∀ b : Nat, b < 9223372036854775808 → (BitVec.ofInt 64 (b : Int)).toNat = b := fun b hb => by
    rw [BitVec.ofInt_natCast, BitVec.toNat_ofNat]; exact Nat.mod_eq_of_lt (by omega)
  have hn : a ^^^ (a / 64) < 2 ^ 63 := Nat.xor_lt_two_pow (by omega) (by omega)
  rw [e]
  show 0 ≤ IntKind.i64.wrap ((BitVec.ofInt 64 (a : Int) ^^^ BitVec.ofInt 64 ((a / 64 : Nat) : Int)).toNat : Int)
  rw [BitVec.toNat_xor, hx a (by omega), hx (a / 64) (by omega), IntKind.wrap_i64]
  omega

theorem Rd.stepped {w : World} {rg m c K p : Nat} {A : Option Addr} (h : Rd w rg A m c K) (d1 : w.cell? ⟨rg, 1, none⟩ = some (.int .i64 p)) :
    Rd (w.setCell ⟨rg, 1, none⟩ (.int .i64 ((p : Int) + 1))) rg A m c (K + 1) ∧ w.grownBy (w.setCell ⟨rg, 1, none⟩ (.int .i64 ((p : Int) + 1))) (some rg) ∧ (w.setCell ⟨rg, 1, none⟩ (.int .i64 ((p : Int) + 1))).heap.size = w.heap.size := by
  obtain ⟨h1, h2, h3, ⟨p', h4, h5⟩, h6, h7, h8, h9⟩ := h
  have hp : p' = p := by
    rw [d1] at h4; injection h4 with h4; injection h4 with _ h4; omega
  subst hp
  have hsz : (w.setCell ⟨rg, 1, none⟩ (.int .i64 ((p' : Int) + 1))).heap.size = w.heap.size := by simp
  refine ⟨⟨by rw [hsz]; exact h1, (World.cell?_setCell_other _ _ _ _ (by simp)).trans h2, by simpa using h3, ⟨p' + 1, (World.cell?_setCell_same _ _ _ h4).trans (by simp), by omega⟩, h6, h7, h8, fun k hk => ?_⟩,
    ⟨rfl, rfl, rfl, by rw [hsz]; exact Nat.le_refl _, fun i _ hne => Below.heap_setCell w _ _ i (by rintro rfl; exact hne rfl)⟩, hsz⟩
  obtain ⟨g, o, x, hA, hg, hc, hx⟩ := h9 k hk
  exact ⟨g, o, x, hA, hg, (World.cell?_setCell_other _ _ _ _ (by intro h; injection h with h1 h2; omega)).trans hc, hx⟩

set_option maxHeartbeats 1000000 in
set_option maxRecDepth 20000 in
theorem pick_any (n : Int) (rg m c K : Nat) (A : Option Addr) (w : World) (h : Rd w rg A m c K) (hK : K ≤ 100000) (h1 : 1 ≤ n) (h2 : n ≤ 1000000) :
    Calls Tryz.prog 57 #[.pointer (some ⟨rg, 0, none⟩), .int .i64 n] w (Picked w rg A m c K n) := by
  obtain ⟨hrg, d0, df, ⟨p, d1, hp⟩, hmc, hcm, hm, hby⟩ := id h
  unfold maxLen at hcm
  by_cases hm0 : m = 0
  · have e0 : ((m : Int) == 0) = true := by simp [hm0]
    clear hm0
    go_enter Tryz.func57, Tryz.ntmps57
    go_wp2
    go_ret
    exact ⟨0, rfl, by omega, by omega, h.stepped d1⟩
  · have e0 : ((m : Int) == 0) = false := by rw [beq_eq_false_iff_ne]; omega
    by_cases hpm : p < m
    · obtain ⟨g, o, x, rfl, hg, cx, x0, x1⟩ := hby p hpm
      have hp2 : (p : Int) < (m : Int) := by omega
      clear hm0
      go_enter Tryz.func57, Tryz.ntmps57
      go_wp2
      go_ret
      exact ⟨x % n, rfl, Int.emod_nonneg _ (by omega), Int.emod_lt_of_pos _ (by omega), h.stepped d1⟩
    · have hm1 : 0 < m := by omega
      clear hm0
      go_enter Tryz.func57, Tryz.ntmps57
      go_wp2
      have hq1 : p % m < m := Nat.mod_lt _ (by omega)
      have hq2 : (p * 7 + 3) % m < m := Nat.mod_lt _ (by omega)
      obtain ⟨g, o, x, rfl, hg, cx, x0, x1⟩ := hby (p % m) hq1
      obtain ⟨g', o', y, hA, hg', cy, y0, y1⟩ := hby ((p * 7 + 3) % m) hq2
      injection hA with hA
      injection hA with hA1 hA2
      subst hA1; subst hA2
      have hpK : p ≤ 100000 := by omega
      have hcast := mod_cast7 p m
      have q3 : (0 : Int) ≤ ((p : Int) * 7 + 3) % (m : Int) := by rw [hcast]; omega
      have q4 : ((p : Int) * 7 + 3) % (m : Int) < (m : Int) := by rw [hcast]; omega
      have cy' : w.cell? ⟨g, o + (((p : Int) * 7 + 3) % (m : Int)).toNat, none⟩ = some (.int .u8 y) := by rw [hcast, Int.toNat_natCast]; exact cy
      clear hcast
      have hdiv := div_cast p m
      have q5 : (0 : Int) ≤ (p : Int) / (m : Int) := by rw [hdiv]; exact Int.natCast_nonneg _
      have q6 : (p : Int) / (m : Int) ≤ 100000 := by rw [hdiv]; exact Int.ofNat_le.2 (Nat.le_trans (Nat.div_le_self p m) hpK)
      clear hdiv
      refine wp_region_quiet_lit (by kernel_rfl) (by kernel_rfl) ?_
      repeat (go_big_quiet_step (fail))
      refine wpQuiet_nil ?_
      rintro _ ⟨nq, rfl⟩
      obtain ⟨z, hz⟩ : ∃ z : Int, z = x * 131 + y * 1117 + (p : Int) * 29 + (p : Int) / (m : Int) * 53 := ⟨_, rfl⟩
      rw [← hz]
      have z1 : 0 ≤ z := by omega
      have z2 : z ≤ 1000000000 := by omega
      clear hz
      have z3 := xor_nn z z1 z2
      go_wp2
      go_ret
      have hs := h.stepped d1
      exact ⟨_, rfl, Int.emod_nonneg _ (by omega), Int.emod_lt_of_pos _ (by omega), hs.1.drewN nq, ⟨hs.2.1.os, hs.2.1.tape, hs.2.1.output, hs.2.1.size, hs.2.1.block⟩, hs.2.2⟩

set_option maxHeartbeats 1000000 in
set_option maxRecDepth 20000 in
theorem odd_any (n : Int) (rg m c K : Nat) (A : Option Addr) (w : World) (h : Rd w rg A m c K) (hK : K ≤ 100000) (h1 : 1 ≤ n) (h2 : n ≤ 1000000) :
    Calls Tryz.prog 103 #[.pointer (some ⟨rg, 0, none⟩), .int .i64 n] w fun e w' => ∃ b : Bool, e = .returned (.bool b) ∧ Rd w' rg A m c (K + 1) ∧ w.grownBy w' (some rg) ∧ w'.heap.size = w.heap.size := by
  go_enter Tryz.func103, Tryz.ntmps103
  go_wp2_with fail
  refine (pick_any n rg m c K A _ h hK h1 h2).mono ?_
  rintro e w1 ⟨x, rfl, x0, x1, hr, hg, hz⟩
  go_wp2
  go_ret
  exact ⟨_, rfl, hr, hg, hz⟩

set_option maxHeartbeats 1000000 in
set_option maxRecDepth 20000 in
theorem l20Open_any (v : Value) (n : Nat) (w : World) (h : ArgBytes w v n) :
    Calls Tryz.prog 26 #[v] w fun e w' => ∃ A m c, e = .returned (.pointer (some ⟨w.heap.size, 0, none⟩)) ∧ Rd w' w.heap.size A m c 0 ∧ Below w.heap.size w w' ∧ w'.heap.size = w.heap.size + 1 := by
  obtain ⟨A, c, rfl, hc1, hc2, hcell⟩ := id h
  unfold maxLen at hc2
  by_cases hn : 2000 < n
  · go_enter Tryz.func26, Tryz.ntmps26
    go_wp2
    go_ret
    refine ⟨A, 2000, c, rfl, ⟨by simp, by simp, by simp, ⟨0, by simp, Nat.le_refl _⟩, by omega, by unfold maxLen; omega, Nat.le_refl _, fun k hk => ?_⟩, by (repeat (first | (with_reducible assumption) | (with_reducible exact Below.refl _ _) | ((with_reducible refine Below.alloc ?_ ?hsz _); (case hsz => (first | omega | (simp; done) | (simp; omega) | (simp at *; omega)))) | ((with_reducible refine Below.setCell ?_ ?hsz _); (case hsz => (first | omega | (simp; done) | (simp; omega) | (simp at *; omega)))) | (with_reducible refine Below.drew ?_) | (with_reducible refine below_drewN ?_ _) | ((with_reducible refine Below.trans ?_ (Below.mono (by with_reducible assumption) ?hsz)); (case hsz => (first | omega | (simp; done) | (simp; omega) | (simp at *; omega)))))), by simp⟩
    obtain ⟨g, o, x, hA, hg, hc, hx⟩ := hcell k (by omega)
    exact ⟨g, o, x, hA, hg, (World.cell?_alloc_lt _ _ _ hg).trans hc, hx⟩
  · go_enter Tryz.func26, Tryz.ntmps26
    go_wp2
    go_ret
    refine ⟨A, n, c, rfl, ⟨by simp, by simp, by simp, ⟨0, by simp, Nat.le_refl _⟩, by omega, by unfold maxLen; omega, by omega, fun k hk => ?_⟩, by (repeat (first | (with_reducible assumption) | (with_reducible exact Below.refl _ _) | ((with_reducible refine Below.alloc ?_ ?hsz _); (case hsz => (first | omega | (simp; done) | (simp; omega) | (simp at *; omega)))) | ((with_reducible refine Below.setCell ?_ ?hsz _); (case hsz => (first | omega | (simp; done) | (simp; omega) | (simp at *; omega)))) | (with_reducible refine Below.drew ?_) | (with_reducible refine below_drewN ?_ _) | ((with_reducible refine Below.trans ?_ (Below.mono (by with_reducible assumption) ?hsz)); (case hsz => (first | omega | (simp; done) | (simp; omega) | (simp at *; omega)))))), by simp⟩
    obtain ⟨g, o, x, hA, hg, hc, hx⟩ := hcell k (by omega)
    exact ⟨g, o, x, hA, hg, (World.cell?_alloc_lt _ _ _ hg).trans hc, hx⟩

end Go.Proofs.YtmgpekdhcghabaaGreat
