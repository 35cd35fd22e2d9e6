/- Contracts of the draws: the reader of a code. -/
import Derived.Test.YtffeeiafgheoaaaD0
import Derived.Test.YtffeeiafgheoaaaP
namespace Go.Proofs.Ytffeeiafgheoaaa
open Go.RowKit

def Rd (w : World) (rg : Nat) (A : Option Addr) (m c K : Nat) : Prop :=
  rg < w.heap.size ∧ w.cell? ⟨rg, 0, none⟩ = some (.slice A m c) ∧ w.frozen? ⟨rg, 1, none⟩ = false ∧ (∃ p : Nat, w.cell? ⟨rg, 1, none⟩ = some (.int .i64 p) ∧ p ≤ K) ∧ m ≤ c ∧ c ≤ maxLen ∧ m ≤ 2000 ∧
    ∀ k, k < m → ∃ g o x, A = some ⟨g, o, none⟩ ∧ g < rg ∧ w.cell? ⟨g, o + k, none⟩ = some (.int .u8 x) ∧ 0 ≤ x ∧ x ≤ 255

theorem Rd.more {w : World} {rg m c K K' : Nat} {A : Option Addr} (h : Rd w rg A m c K) (hK : K ≤ K') : Rd w rg A m c K' := by
  obtain ⟨h1, h2, h3, ⟨p, h4, h5⟩, h6⟩ := h
  exact ⟨h1, h2, h3, ⟨p, h4, by omega⟩, h6⟩
theorem Rd.keep {w w' : World} {rg m c K : Nat} {A : Option Addr} (h : Rd w rg A m c K) (hb : Below w.heap.size w w') : Rd w' rg A m c K := by
  obtain ⟨h1, h2, h3, ⟨p, h4, h5⟩, h6, h7, h8, h9⟩ := h
  refine ⟨Nat.lt_of_lt_of_le h1 hb.size, (hb.cell (p := ⟨rg, _, none⟩) h1).trans h2, (hb.frozen (p := ⟨rg, _, none⟩) h1).trans h3, ⟨p, (hb.cell (p := ⟨rg, _, none⟩) h1).trans h4, h5⟩, h6, h7, h8, fun k hk => ?_⟩
  obtain ⟨g, o, x, hA, hg, hc, hx⟩ := h9 k hk
  exact ⟨g, o, x, hA, hg, (hb.cell (p := ⟨g, _, none⟩) (Nat.lt_trans hg h1)).trans hc, hx⟩

theorem Rd.drewN {w : World} {rg m c K : Nat} {A : Option Addr} (h : Rd w rg A m c K) (k : Nat) : Rd (w.drewN k) rg A m c K := h

theorem Rd.drew {w : World} {rg m c K : Nat} {A : Option Addr} (h : Rd w rg A m c K) : Rd w.drew rg A m c K := h

theorem Rd.set {w : World} {rg m c K : Nat} {A : Option Addr} (h : Rd w rg A m c K) {p : Addr} (hp : rg < p.block) (v : Value) : Rd (w.setCell p v) rg A m c K := by
  obtain ⟨h1, h2, h3, ⟨q, h4, h5⟩, h6, h7, h8, h9⟩ := h
  have hne : ∀ b o, b ≤ rg → (w.setCell p v).cell? ⟨b, o, none⟩ = w.cell? ⟨b, o, none⟩ := fun b o hb => World.cell?_setCell_other _ _ _ _ (by rintro rfl; exact absurd hp (by simpa using hb))
  refine ⟨by simpa using h1, (hne _ _ (Nat.le_refl _)).trans h2, by simpa using h3, ⟨q, (hne _ _ (Nat.le_refl _)).trans h4, h5⟩, h6, h7, h8, fun k hk => ?_⟩
  obtain ⟨g, o, x, hA, hg, hc, hx⟩ := h9 k hk
  exact ⟨g, o, x, hA, hg, (hne _ _ (Nat.le_of_lt hg)).trans hc, hx⟩

/-- what pick leaves -/
def Picked (w : World) (rg : Nat) (A : Option Addr) (m c K : Nat) (n : Int) (e : Ending) (w' : World) : Prop :=
  ∃ x : Int, e = .returned (.int .i64 x) ∧ 0 ≤ x ∧ x < n ∧ Rd w' rg A m c (K + 1) ∧ w.grownBy w' (some rg) ∧ w'.heap.size = w.heap.size

theorem mod_cast7 (p m : Nat) : ((p : Int) * 7 + 3) % (m : Int) = ((p * 7 + 3) % m : Nat) := by
  rw [Int.natCast_emod]
  rfl

theorem div_cast (p m : Nat) : (p : Int) / (m : Int) = (p / m : Nat) := by rw [Int.natCast_ediv]

theorem xor_nn (z : Int) (h0 : 0 ≤ z) (h1 : z ≤ 1000000000) : 0 ≤ bits .xor .i64 z (z / 64) := by
  obtain ⟨a, rfl⟩ := Int.eq_ofNat_of_zero_le h0
  have e : ((a : Int) / 64) = ((a / 64 : Nat) : Int) := by omega
  have hx : ∀ b : Nat, b < 9223372036854775808 → (BitVec.ofInt 64 (b : Int)).toNat = b := fun b hb => by
    rw [BitVec.ofInt_natCast, BitVec.toNat_ofNat]; exact Nat.mod_eq_of_lt (by omega)
  have hn : a ^^^ (a / 64) < 2 ^ 63 := Nat.xor_lt_two_pow (by omega) (by omega)
  rw [e]
  show 0 ≤ IntKind.i64.wrap ((BitVec.ofInt 64 (a : Int) ^^^ BitVec.ofInt 64 ((a / 64 : Nat) : Int)).toNat : Int)
  rw [BitVec.toNat_xor, hx a (by omega), hx (a / 64) (by omega), IntKind.wrap_i64]
  omega

theorem Rd.stepped {w : World} {rg m c K p : Nat} {A : Option Addr} (h : Rd w rg A m c K) (d1 : w.cell? ⟨rg, 1, none⟩ = some (.int .i64 p)) :
    Rd (w.setCell ⟨rg, 1, none⟩ (.int .i64 ((p : Int) + 1))) rg A m c (K + 1) ∧ w.grownBy (w.setCell ⟨rg, 1, none⟩ (.int .i64 ((p : Int) + 1))) (some rg) ∧ (w.setCell ⟨rg, 1, none⟩ (.int .i64 ((p : Int) + 1))).heap.size = w.heap.size := by
  obtain ⟨h1, h2, h3, ⟨p', h4, h5⟩, h6, h7, h8, h9⟩ := h
  have hp : p' = p := by
    rw [d1] at h4; injection h4 with h4; injection h4 with _ h4; omega
  subst hp
  have hsz : (w.setCell ⟨rg, 1, none⟩ (.int .i64 ((p' : Int) + 1))).heap.size = w.heap.size := by simp
  refine ⟨⟨by rw [hsz]; exact h1, (World.cell?_setCell_other _ _ _ _ (by simp)).trans h2, by simpa using h3, ⟨p' + 1, (World.cell?_setCell_same _ _ _ h4).trans (by simp), by omega⟩, h6, h7, h8, fun k hk => ?_⟩,
    ⟨rfl, rfl, rfl, by rw [hsz]; exact Nat.le_refl _, fun i _ hne => Below.heap_setCell w _ _ i (by rintro rfl; exact hne rfl)⟩, hsz⟩
  obtain ⟨g, o, x, hA, hg, hc, hx⟩ := h9 k hk
  exact ⟨g, o, x, hA, hg, (World.cell?_setCell_other _ _ _ _ (by intro h; injection h with h1 h2; omega)).trans hc, hx⟩

end Go.Proofs.Ytffeeiafgheoaaa
