/- Plain facts. -/
import Derived.Test.YtphbmlephldaaaaGQ25
import Derived.Test.YtphbmlephldaaaaDO
import Derived.Test.YtphbmlephldaaaaGQ14
import Derived.Test.YtphbmlephldaaaaGQ19
import Derived.Test.YtphbmlephldaaaaGQ21
/- Contracts of the laws' draws of chapter 10: a net and needs. -/
namespace Go.Proofs.Ytphbmlephldaaaa
open Go.RowKit

/-- what is known of the world while needs are drawn -/
structure NeSt (w : World) (rg m c nb gb Z : Nat) (A : Option Addr) (z : Int) (S : Value) (ps : List Pp) (K : Nat) (B : Int) (wx : World) : Prop where
  rd : Rd wx rg A m c K
  gr : w.grownBy wx (some rg)
  pi : Pipes wx (w.heap.size + 1) S ps
  nb : Box2 wx nb (.int .i64 z) S
  rb : Box2 wx w.heap.size (.int .i64 0) (.slice none 0 0)
  ro : ∃ qs : List Int, Row wx gb gb Z Z qs ∧ ∀ x ∈ qs, -B ≤ x ∧ x ≤ B

section
variable {w wx wy : World} {rg m c nb gb Z K : Nat} {A : Option Addr} {z B : Int} {S : Value} {ps : List Pp}
theorem NeSt.more (h : NeSt w rg m c nb gb Z A z S ps K B wx) {K' : Nat} {B' : Int} (hK : K ≤ K') (hB : B ≤ B') : NeSt w rg m c nb gb Z A z S ps K' B' wx :=
  ⟨h.rd.more hK, h.gr, h.pi, h.nb, h.rb, by obtain ⟨qs, h1, h2⟩ := h.ro; exact ⟨qs, h1, fun x hx => by have := h2 x hx; omega⟩⟩
theorem NeSt.alloc (h : NeSt w rg m c nb gb Z A z S ps K B wx) (o : Obj) : NeSt w rg m c nb gb Z A z S ps K B (wx.alloc o) := by
  have hb : Below wx.heap.size wx (wx.alloc o) := (Below.refl _ _).alloc (Nat.le_refl _) _
  exact ⟨h.rd.keep hb, grow_alloc h.gr o, h.pi.keep hb, h.nb.keep hb, h.rb.keep hb, by obtain ⟨qs, h1, h2⟩ := h.ro; exact ⟨qs, h1.keep hb, h2⟩⟩
theorem NeSt.drew (h : NeSt w rg m c nb gb Z A z S ps K B wx) : NeSt w rg m c nb gb Z A z S ps K B wx.drew :=
  ⟨h.rd.drew, grow_drew h.gr, h.pi.drew', h.nb, h.rb, h.ro⟩
theorem NeSt.pick (h : NeSt w rg m c nb gb Z A z S ps K B wx) (hg : wx.grownBy wy (some rg)) {K' : Nat} (hr : Rd wy rg A m c K') (h1 : rg < w.heap.size) (h2 : rg ≠ nb) (h3 : rg ≠ gb) : NeSt w rg m c nb gb Z A z S ps K' B wy :=
  ⟨hr, grow_more h.gr hg (fun q hq => .inr hq), h.pi.grown hg (by omega), h.nb.grown hg (fun e => h2 (by injection e with e; exact e.symm)), h.rb.grown hg (fun e => by injection e with e; omega), by obtain ⟨qs, r1, r2⟩ := h.ro; exact ⟨qs, r1.grown hg (fun e => h3 (by injection e)), r2⟩⟩
/-- a store into a block that is none of these -/
theorem NeSt.far (h : NeSt w rg m c nb gb Z A z S ps K B wx) {p : Addr} (v : Value) (h0 : w.heap.size < p.block) (h1 : rg < w.heap.size) (h2 : p.block ≠ nb) (h3 : p.block ≠ gb) (h4 : S.ownBlock ≠ some p.block) : NeSt w rg m c nb gb Z A z S ps K B (wx.setCell p v) :=
  ⟨h.rd.set (by omega) v, grow_set h.gr (.inl (by omega)) v, ⟨ownsRow_setCell_other h.pi.1 h4 _, h.pi.2⟩, h.nb.far h2 v, h.rb.far (by omega) v, by obtain ⟨qs, r1, r2⟩ := h.ro; exact ⟨qs, r1.far h3 v, r2⟩⟩
/-- a store into the needs -/
theorem NeSt.need (h : NeSt w rg m c nb gb Z A z S ps K B wx) (j : Nat) (x : Int) {B' : Int} (hB : B ≤ B') (hx : -B' ≤ x ∧ x ≤ B') (h0 : w.heap.size < gb) (h1 : rg < w.heap.size) (h2 : gb ≠ nb) (h4 : S.ownBlock ≠ some gb) : NeSt w rg m c nb gb Z A z S ps K B' (wx.setCell ⟨gb, j, none⟩ (.int .i64 x)) :=
  ⟨h.rd.set h1' _, grow_set h.gr (.inl (by show w.heap.size ≤ gb; omega)) _, ⟨ownsRow_setCell_other (a := ⟨gb, j, none⟩) h.pi.1 h4 _, h.pi.2⟩, h.nb.far (p := ⟨gb, j, none⟩) h2 _, h.rb.far (p := ⟨gb, j, none⟩) (by show gb ≠ w.heap.size; omega) _, by
    obtain ⟨qs, r1, r2⟩ := h.ro
    refine ⟨qs.set j x, r1.set j x, fun y hy => ?_⟩
    rcases List.mem_or_eq_of_mem_set hy with hy | rfl
    · have := r2 y hy; omega
    · exact hx⟩
where h1' : rg < (⟨gb, j, none⟩ : Addr).block := by show rg < gb; omega
end

/-- what the operations of a drawn pipe yield -/
def neV (rg nb g M : Nat) (S : Value) (W0 : Nat) : Nat → Value → (Nat → Value) → World → Prop
  | 0, x, _, _ => x = .pointer (some ⟨nb, 1, none⟩)
  | 1, x, _, _ => x = S
  | 2, x, _, _ => x = .pointer (some ⟨rg, 0, none⟩)
  | 3, x, _, _ => x = .pointer (some ⟨nb, 1, none⟩)
  | 4, x, _, _ => x = S
  | 5, x, _, _ => x = .int .i64 (M : Int)
  | 6, x, _, _ => ∃ i : Nat, i < M ∧ x = .int .i64 (i : Int)
  | 7, x, _, _ => ∃ i : Nat, i < M ∧ x = .pointer (some ⟨g, i * 5, none⟩)
  | 8, x, _, _ => ∃ q0 q1 q2 q3 q4 : Int, x = .agg #[.int .i64 q0, .int .i64 q1, .int .i64 q2, .int .i64 q3, .int .i64 q4]
  | 9, x, _, wx => ∃ (b : Nat) (x0 x1 x2 x3 x4 : Value), x = .pointer (some ⟨b, 0, none⟩) ∧ W0 ≤ b ∧ wx.heap[b]? = some (.cells #[x0, x1, x2, x3, x4] 33)
  | 10, _, u, wx => ∃ (b : Nat) (q0 q1 q2 q3 q4 : Int), u 9 = .pointer (some ⟨b, 0, none⟩) ∧ W0 ≤ b ∧ wx.heap[b]? = some (.cells #[.int .i64 q0, .int .i64 q1, .int .i64 q2, .int .i64 q3, .int .i64 q4] 33)
  | _, _, _, _ => True
def neR (rg : Nat) : Nat → World → World → Prop
  | 6, wx, wy => wx.grownBy wy (some rg)
  | 10, _, _ => True
  | _, wx, wy => Below wx.heap.size wx wy

/-- what the operations of a store into the needs yield -/
def nsV (gb b o F : Nat) (S : Value) (y mu t : Int) : Nat → Value → Prop
  | 0, x => x = S
  | 1, x => x = .pointer (some ⟨b, o, none⟩)
  | 2, x => x = .int .i64 (F : Int)
  | 3, x => x = S
  | 4, x => x = .pointer (some ⟨b, o, none⟩)
  | 5, x => x = .int .i64 (F : Int)
  | 6, x => x = .pointer (some ⟨gb, F, none⟩)
  | 7, x => x = .int .i64 y
  | 8, x => x = .int .i64 mu
  | 9, x => x = .int .i64 t
  | 10, x => x = .pointer (some ⟨gb, F, none⟩)
  | _, _ => True

theorem int_eqN {a b : Int} (h : a = b) : Value.int .i64 a = .int .i64 b := by rw [h]
theorem within_nat {q : Int} {Z : Nat} (h : withinB q 0 ((Z : Int) - 1) = true) : ∃ F : Nat, q = (F : Int) ∧ F < Z := by
  simp only [withinB, Bool.and_eq_true, decide_eq_true_eq] at h
  obtain ⟨F, rfl⟩ := Int.eq_ofNat_of_zero_le h.1
  exact ⟨F, rfl, by omega⟩

set_option maxHeartbeats 8000000 in
set_option maxRecDepth 20000 in
theorem l20Needs_any (rg m c K : Nat) (A : Option Addr) (w : World) (h : Rd w rg A m c K) (hK : K ≤ 40000) :
    Calls Try.prog 80 #[.pointer (some ⟨rg, 0, none⟩)] w fun e w' => ∃ (z : Int) (ps : List Pp) (v o : Value) (nd : List Int), e = .returned (.tuple #[.agg #[.int .i64 z, v], o]) ∧ Pipes w' w.heap.size v ps ∧ Ints w' w.heap.size o nd ∧ Rd w' rg A m c (K + 4000) ∧ w.grownBy w' (some rg) ∧ ps.length ≤ 8 ∧ 1 ≤ z ∧ z ≤ 6 ∧ nd.length ≤ 6 ∧ (∀ x ∈ nd, -1000 ≤ x ∧ x ≤ 1000) ∧ BdL ps := by
  have hrg := h.1
  go_enter Try.func80, Try.ntmps80
  go_wp2_with fail
  refine (l20FreeB_any 14 rg m c K A _ (h.keep (by (repeat (first | (with_reducible assumption) | (with_reducible exact Below.refl _ _) | ((with_reducible refine Below.alloc ?_ ?hsz _); (case hsz => (first | omega | (simp; done) | (simp; omega) | (simp at *; omega)))) | ((with_reducible refine Below.setCell ?_ ?hsz _); (case hsz => (first | omega | (simp; done) | (simp; omega) | (simp at *; omega)))) | (with_reducible refine Below.drew ?_) | (with_reducible refine below_drewN ?_ _) | ((with_reducible refine Below.trans ?_ (Below.mono (by with_reducible assumption) ?hsz)); (case hsz => (first | omega | (simp; done) | (simp; omega) | (simp at *; omega)))))))) (by omega) (by omega) (by omega)).mono ?_
  rintro e w1 ⟨z, ps, v, i, j, rfl, hp1, hr1, hg1, hl8, hz1, hz6, -, -, -, hbd⟩
  rw [World.size_alloc] at hp1
  have bx1 : Box2 w1 w.heap.size (.int .i64 0) (.slice none 0 0) := (Box2.new w _ _ 25).grown hg1 (by simp; omega)
  have hs1 := hg1.size
  rw [World.size_alloc] at hs1
  have hgw1 : w.grownBy w1 (some rg) := grow_more (grow_alloc (grow_refl w _) _) hg1 (fun q hq => .inr hq)
  obtain ⟨Z, rfl⟩ := Int.eq_ofNat_of_zero_le (show 0 ≤ z by omega)
  obtain ⟨PA, pc, rfl, hc1, hc2, hsm, -⟩ := hp1.form
  unfold maxLen at hc2
  have hmk := fun W => run_make_ints (n := Z) (by omega) W
  have HOB : Hid (∀ q, (Value.slice PA ps.length pc).ownBlock = some q → q < w1.heap.size) := Lib.hid fun q hq => (hp1.1.lt q hq).2
  have hst : NeSt w rg m c w1.heap.size (w1.heap.size + 1) Z A Z (.slice PA ps.length pc) ps (K + 300) 0 ((w1.alloc (.cells #[.int .i64 Z, .slice PA ps.length pc] 25)).alloc (.cells (madeCells #[.int .i64 0] Z) 3)) := by
    have hb1 : Below w1.heap.size w1 (w1.alloc (.cells #[.int .i64 Z, .slice PA ps.length pc] 25)) := (Below.refl _ _).alloc (Nat.le_refl _) _
    refine ⟨(hr1.alloc' _).alloc' _, grow_alloc (grow_alloc hgw1 _) _, (hp1.alloc' _).alloc' _, (Box2.new _ _ _ _).keep ((Below.refl _ _).alloc (Nat.le_refl _) _), (bx1.keep hb1).keep ((Below.refl _ _).alloc (Nat.le_refl _) _), List.replicate Z 0, ?_, fun x hx => by have := List.eq_of_mem_replicate hx; omega⟩
    have hm : Row _ _ _ Z Z (List.replicate Z 0) := ⟨made_ints (w1.alloc (.cells #[.int .i64 Z, .slice PA ps.length pc] 25)) Z 3 _ (Nat.le_refl _) (by omega), by unfold small; omega⟩
    rw [World.size_alloc] at hm
    exact hm
  have HST := Lib.hid hst
  have HBD := Lib.hid hbd
  clear hbd
  clear hst hp1 hr1 hg1 hgw1 bx1 h
  obtain ⟨nb, hnb⟩ : ∃ nb, nb = w1.heap.size := ⟨_, rfl⟩
  obtain ⟨gb, hgb⟩ : ∃ gb, gb = nb + 1 := ⟨_, rfl⟩
  rw [← hnb] at HST HOB hs1
  rw [← hgb] at HST
  have hgbw : w.heap.size < gb := by omega
  have hmx : max (Z : Int) 0 = (Z : Int) := by omega
  go_wp2_with fail
  all_goals (try (exfalso; omega))
  refine (pick_any 4 rg m c (K + 300) A _ HST.out.rd (by omega) (by omega) (by omega)).mono ?_
  rintro e w2 ⟨x2, rfl, x20, x21, hr2, hg2, hz2⟩
  have hst2 := (HST.out.pick hg2 hr2 hrg (by omega) (by omega)).more (K' := K + 900) (B' := 100) (by omega) (by omega)
  obtain ⟨k0, rfl⟩ := Int.eq_ofNat_of_zero_le x20
  have HS2 := Lib.hid hst2
  have hgb2 : (World.alloc w1 (.cells #[.int .i64 Z, .slice PA ps.length pc] 25)).heap.size = gb := by rw [World.size_alloc]; omega
  clear HST hr2 hg2 hz2 hst2 hmx hmk
  have hgn : nb < gb := by omega
  go_wp2_with fail
  rw [← hnb, ← hgb]
  clear hnb hgb hgb2
  go_loopw [8] (fun t wr => ∃ k : Nat, k ≤ 3 ∧ t = .int .i64 k ∧ NeSt w rg m c nb gb Z A Z (.slice PA ps.length pc) ps (K + 3000 - 700 * k) (400 - 100 * k) wr) (fun t _ => (intOf t).toNat)
  case atStart => exact ⟨k0, by omega, rfl, HS2.out.more (by omega) (by omega)⟩
  case round =>
    clear HS2
    obtain ⟨k, hk, rfl, st⟩ := hrel
    by_cases hgo : 0 < k ∧ 0 < ps.length
    · obtain ⟨hk0, hps⟩ := hgo
      obtain ⟨k', rfl⟩ : ∃ k', k = k' + 1 := ⟨k - 1, by omega⟩
      obtain ⟨M, hM⟩ : ∃ M, ps.length = M := ⟨_, rfl⟩
      obtain ⟨gp, rfl, hgp1, hgp2, -⟩ := st.pi.at' 0 hps
      have hgpn : gp < nb := HOB.out gp rfl
      rw [hM] at st hps hl8 hsm hc1 ⊢
      have HM := Lib.hid hM
      have hwr : gb < wr.heap.size := by obtain ⟨qs, r1, -⟩ := st.ro; exact r1.lt.2
      have HSTR := Lib.hid st
      obtain ⟨ns, n0, n1, n2, n3⟩ := id st.nb
      have hkd : decide (0 < ((k' + 1 : Nat) : Int)) = true := decide_eq_true (by omega)
      have hpd : decide (0 < M) = true := decide_eq_true hps
      clear st hM hk0
      go_wp2_with fail
      clear n0 n1 n2 n3 hkd hpd
      refine wp_region_flow 11 none [(0, 33), (1, 34), (2, 35), (3, 36), (4, 37), (5, 38), (6, 39), (7, 40), (8, 41), (9, 9)] (neV rg nb gp M (.slice (some ⟨gp, 0, none⟩) M pc) wr.heap.size) (neR rg) (fun f wx => NeSt w rg m c nb gb Z A Z (.slice (some ⟨gp, 0, none⟩) M pc) ps (K + 3000 - 700 * (k' + 1) + (11 - f) * 20) (400 - 100 * ((k' + 1 : Nat) : Int)) wx ∧ wr.heap.size ≤ wx.heap.size ∧ f ≤ 11) (by kernel_rfl) (by kernel_rfl) rfl ⟨HSTR.out.drew.more (by omega) (Int.le_refl _), Nat.le_refl _, Nat.le_refl _⟩ ?_ ?_ ?_ ?_
      · intro i k hi hk hal x u wx wy hR hV
        have hk' : k < 11 := hk
        have h10' : i = 10 → aliveB _ 10 k = true := fun e => by rw [← e]; exact hal
        by_cases n10 : i = 10
        · have h10 := h10' n10
          subst n10
          rcases k with _ | _ | _ | _ | _ | _ | _ | _ | _ | _ | _ | k
          all_goals first | exact hV | (exfalso; revert h10; decide) | (exfalso; omega)
        · have hg : ∀ (b : Nat) (o : Obj), rg ≠ b → wx.heap[b]? = some o → wy.heap[b]? = some o := by
            intro b o hb ho
            by_cases n6 : i = 6
            · subst n6; exact heap_grown ho hR (fun e => hb (by injection e with e; exact e.symm))
            · have hb2 : Below wx.heap.size wx wy := by
                unfold neR at hR
                split at hR
                · exact absurd rfl n6
                · exact absurd rfl n10
                · exact hR
              exact heap_keep ho hb2
          rcases k with _ | _ | _ | _ | _ | _ | _ | _ | _ | _ | _ | k
          all_goals first | exact hV | (exfalso; omega) | skip
          · obtain ⟨b, x0, x1, x2, x3, x4, h1, h2, h3⟩ := hV
            exact ⟨b, x0, x1, x2, x3, x4, h1, h2, hg b _ (by omega) h3⟩
          · obtain ⟨b, q0, q1, q2, q3, q4, h1, h2, h3⟩ := hV
            exact ⟨b, q0, q1, q2, q3, q4, h1, h2, hg b _ (by omega) h3⟩
      · intro k hk x u u' wx h hV
        have hk' : k < 11 := hk
        rcases k with _ | _ | _ | _ | _ | _ | _ | _ | _ | _ | _ | k
        all_goals first | exact hV | (exfalso; omega) | skip
        obtain ⟨b, q0, q1, q2, q3, q4, h1, h2, h3⟩ := hV
        exact ⟨b, q0, q1, q2, q3, q4, by rw [← h 9 (by decide)]; exact h1, h2, h3⟩
      · simp (maxSteps := 4000000) only [eachOp, fillF, List.setIfInBounds_toArray, List.set_cons_succ, List.set_cons_zero]
        refine ⟨?_, ?_, ?_, ?_, ?_, ?_, ?_, ?_, ?_, ?_, ?_, trivial⟩ <;> intro u f wx hC hd <;> (try simp [allV, useOf, Region.binds] at hd) <;> obtain ⟨hS, hz, hf11⟩ := hC
        · go_wp2
          exact ⟨_, rfl, rfl, Below.refl _ _, hS.more (by omega) (Int.le_refl _), hz, by omega⟩
        · rw [show u 0 = _ from hd]
          obtain ⟨nx, n0, n1, n2, n3⟩ := id hS.nb
          go_wp2
          exact ⟨_, rfl, rfl, Below.refl _ _, hS.more (by omega) (Int.le_refl _), hz, by omega⟩
        · go_wp2
          exact ⟨_, rfl, rfl, Below.refl _ _, hS.more (by omega) (Int.le_refl _), hz, by omega⟩
        · go_wp2
          exact ⟨_, rfl, rfl, Below.refl _ _, hS.more (by omega) (Int.le_refl _), hz, by omega⟩
        · rw [show u 3 = _ from hd]
          obtain ⟨nx, n0, n1, n2, n3⟩ := id hS.nb
          go_wp2
          exact ⟨_, rfl, rfl, Below.refl _ _, hS.more (by omega) (Int.le_refl _), hz, by omega⟩
        · rw [show u 4 = _ from hd]
          go_wp2
          exact ⟨_, rfl, rfl, Below.refl _ _, hS.more (by omega) (Int.le_refl _), hz, by omega⟩
        · rw [show u 2 = _ from hd.1, show u 5 = _ from hd.2]
          go_wp2_with fail
          refine (pick_any (M : Int) rg m c _ A _ hS.rd (by omega) (by omega) (by omega)).mono ?_
          rintro e w5 ⟨x, rfl, x0, x1, hr5, hg5, hz5⟩
          have hS5 := hS.pick hg5 (hr5.more (K' := K + 3000 - 700 * (k' + 1) + (11 - f) * 20) (by omega)) hrg (by omega) (by omega)
          obtain ⟨xi, rfl⟩ := Int.eq_ofNat_of_zero_le x0
          clear hS hr5
          go_wp2
          exact ⟨_, rfl, ⟨xi, by omega, rfl⟩, hg5, hS5, by omega, by omega⟩
        · obtain ⟨h1, xi, hxi, h6⟩ : u 1 = .slice (some ⟨gp, 0, none⟩) M pc ∧ ∃ i : Nat, i < M ∧ u 6 = .int .i64 (i : Int) := hd
          rw [h1, h6]
          go_wp2
          exact ⟨_, rfl, ⟨xi, hxi, rfl⟩, Below.refl _ _, hS.more (by omega) (Int.le_refl _), hz, by omega⟩
        · obtain ⟨xi, hxi, h7⟩ : ∃ i : Nat, i < M ∧ u 7 = .pointer (some ⟨gp, i * 5, none⟩) := hd
          rw [h7]
          obtain ⟨gq, hgq, -, -, c0, c1, c2, c3, c4⟩ := hS.pi.at' xi (by rw [HM.out]; exact hxi)
          have hge : gq = gp := by injection hgq with h1; injection h1 with h2; exact h2.symm
          rw [hge] at c0 c1 c2 c3 c4
          clear hgq hge
          go_wp2
          exact ⟨_, rfl, ⟨_, _, _, _, _, rfl⟩, Below.refl _ _, hS.more (by omega) (Int.le_refl _), hz, by omega⟩
        · go_wp2
          exact ⟨_, rfl, ⟨_, _, _, _, _, _, rfl, hz, heap_alloc_new _ _⟩, (Below.refl _ _).alloc (Nat.le_refl _) _, (hS.alloc _).more (by omega) (Int.le_refl _), by simp; omega, by omega⟩
        · obtain ⟨⟨b, y0, y1, y2, y3, y4, h9, hbw, hh⟩, q0, q1, q2, q3, q4, h8⟩ : (∃ (b : Nat) (x0 x1 x2 x3 x4 : Value), u 9 = .pointer (some ⟨b, 0, none⟩) ∧ wr.heap.size ≤ b ∧ wx.heap[b]? = some (.cells #[x0, x1, x2, x3, x4] 33)) ∧ ∃ q0 q1 q2 q3 q4 : Int, u 8 = .agg #[.int .i64 q0, .int .i64 q1, .int .i64 q2, .int .i64 q3, .int .i64 q4] := by first | exact hd | exact ⟨hd.2, hd.1⟩
          rw [h9, h8]
          have e0 := heap_cell (j := 0) hh rfl
          have e1 := heap_cell (j := 1) hh rfl
          have e2 := heap_cell (j := 2) hh rfl
          have e3 := heap_cell (j := 3) hh rfl
          have e4 := heap_cell (j := 4) hh rfl
          have f0 := heap_frozen (j := 0) hh
          have f1 := heap_frozen (j := 1) hh
          have f2 := heap_frozen (j := 2) hh
          have f3 := heap_frozen (j := 3) hh
          have f4 := heap_frozen (j := 4) hh
          have hgl := heap_lt hh
          have g0 := heap_set (j := 0) (.int .i64 q0) hh
          have g1 := heap_set (j := 1) (.int .i64 q1) g0
          have g2 := heap_set (j := 2) (.int .i64 q2) g1
          have g3 := heap_set (j := 3) (.int .i64 q3) g2
          have g4 := heap_set (j := 4) (.int .i64 q4) g3
          have hob : (Value.slice (some ⟨gp, 0, none⟩) M pc).ownBlock ≠ some b := fun e => by
            have e' : gp = b := by injection e
            omega
          have hfar := ((((hS.far (p := ⟨b, 0, none⟩) (.int .i64 q0) (by show w.heap.size < b; omega) hrg (by show b ≠ nb; omega) (by show b ≠ gb; omega) hob).far (p := ⟨b, 1, none⟩) (.int .i64 q1) (by show w.heap.size < b; omega) hrg (by show b ≠ nb; omega) (by show b ≠ gb; omega) hob).far (p := ⟨b, 2, none⟩) (.int .i64 q2) (by show w.heap.size < b; omega) hrg (by show b ≠ nb; omega) (by show b ≠ gb; omega) hob).far (p := ⟨b, 3, none⟩) (.int .i64 q3) (by show w.heap.size < b; omega) hrg (by show b ≠ nb; omega) (by show b ≠ gb; omega) hob).far (p := ⟨b, 4, none⟩) (.int .i64 q4) (by show w.heap.size < b; omega) hrg (by show b ≠ nb; omega) (by show b ≠ gb; omega) hob
          have HF := Lib.hid (And.intro g4 (hfar.more (K' := K + 3000 - 700 * (k' + 1) + (11 - f) * 20) (by omega) (Int.le_refl _)))
          clear g0 g1 g2 g3 g4 hfar hh hS
          go_wp2
          exact ⟨undef, rfl, ⟨b, q0, q1, q2, q3, q4, h9, hbw, HF.out.1⟩, trivial, HF.out.2, by simp; omega, by omega⟩
      · intro u f wx hC hfin
        simp only [fillEnd, fillF, Act.put, List.setIfInBounds_toArray, List.set_cons_succ, List.set_cons_zero]
        obtain ⟨b, q0, q1, q2, q3, q4, h9, hbw, hh⟩ : ∃ (b : Nat) (q0 q1 q2 q3 q4 : Int), u 9 = .pointer (some ⟨b, 0, none⟩) ∧ wr.heap.size ≤ b ∧ wx.heap[b]? = some (.cells #[.int .i64 q0, .int .i64 q1, .int .i64 q2, .int .i64 q3, .int .i64 q4] 33) := hfin 10 (by decide) (by decide)
        rw [h9]
        obtain ⟨hS, hz, -⟩ := hC
        clear hfin h9 HSTR ns
        go_wp2_with fail
        refine (pick_any 3 rg m c _ A _ hS.rd (by omega) (by omega) (by omega)).mono ?_
        rintro e w5 ⟨mu, rfl, mu0, mu1, hr5, hg5, hz5⟩
        have hS5 := hS.pick hg5 (hr5.more (K' := K + 3000 - 700 * k') (by omega)) hrg (by omega) (by omega)
        have hh5 := heap_grown hh hg5 (fun e => by injection e with e; omega)
        have p0 := heap_cell (j := 0) hh5 rfl
        have p1 := heap_cell (j := 1) hh5 rfl
        have hbl := heap_lt hh5
        have hz5w : gb < w5.heap.size := by obtain ⟨qs, r1, -⟩ := hS5.ro; exact r1.lt.2
        have HS5 := Lib.hid hS5
        clear hS hr5 hg5 hh hh5 hS5
        by_cases hfr : withinB q0 0 ((Z : Int) - 1) = true
        · by_cases hto : withinB q1 0 ((Z : Int) - 1) = true
          · obtain ⟨F, rfl, hF⟩ := within_nat hfr
            obtain ⟨T, rfl, hT⟩ := within_nat hto
            obtain ⟨qs, hR, hqb⟩ := HS5.out.ro
            have y0 := (hR.at' F hF).1
            have y1 := (hR.at' F hF).2
            have hyb : -(400 - 100 * ((k' + 1 : Nat) : Int)) ≤ qs.getD F 0 ∧ qs.getD F 0 ≤ 400 - 100 * ((k' + 1 : Nat) : Int) := by
              have hql := hR.len
              rw [getD_at (show F < qs.length by omega)]
              exact hqb _ (List.getElem_mem _)
            generalize qs.getD F 0 = y at *
            obtain ⟨yb1, yb2⟩ := hyb
            have hob : (Value.slice (some ⟨gp, 0, none⟩) M pc).ownBlock ≠ some gb := fun e => by
              have e' : gp = gb := by injection e
              omega
            have hN := HS5.out.drew.need F (y - mu) (B' := 400 - 100 * ((k' + 1 : Nat) : Int) + 2) (by omega) (by omega) hgbw hrg (by omega) hob
            have HN := Lib.hid hN
            clear hN hR hqb HS5
            go_wp2_with fail
            refine (l1In_any (F : Int) _ _ _).mono ?_
            rintro e w6 ⟨rfl, rfl⟩
            rw [hfr]
            go_wp2_with fail
            refine (l1In_any (T : Int) _ _ _).mono ?_
            rintro e w6 ⟨rfl, rfl⟩
            rw [hto]
            clear hfr hto
            go_wp2_with fail
            refine wp_region_flowL 12 none [(0, 58), (1, 59), (2, 60), (3, 61), (4, 62), (5, 63), (6, 64), (7, 65), (8, 66), (9, 67), (10, 68)] (fun i x _ wx => nsV gb b 0 F (.slice (some ⟨gb, 0, none⟩) Z Z) y mu (y - mu) i x ∧ (i = 11 → wx = w5.drew.setCell ⟨gb, F, none⟩ (.int .i64 (y - mu)))) (fun _ _ _ => True) (fun f wx => 1 ≤ f → wx = w5.drew) (by kernel_rfl) (by kernel_rfl) rfl (fun _ => rfl) ?_ ?_ ?_ ?_
            · intro i k hi hk hal x u wx wy hR hV
              have hi' : i < 12 := hi
              have hk' : k < 12 := hk
              rcases k with _ | _ | _ | _ | _ | _ | _ | _ | _ | _ | _ | _ | k
              all_goals first | exact ⟨hV.1, fun h => absurd h (by decide)⟩ | (exfalso; omega) | skip
              rcases i with _ | _ | _ | _ | _ | _ | _ | _ | _ | _ | _ | _ | i
              all_goals first | (exfalso; revert hal; decide) | (exfalso; omega)
            · exact fun _ _ _ _ _ _ _ h => h
            · simp (maxSteps := 4000000) only [eachOp, fillF, List.setIfInBounds_toArray, List.set_cons_succ, List.set_cons_zero]
              refine ⟨?_, ?_, ?_, ?_, ?_, ?_, ?_, ?_, ?_, ?_, ?_, ?_, trivial⟩ <;> intro u f wx hC hd hf <;> (try simp [allV, useOf, Region.binds] at hd)
              · have hf1 : 1 ≤ f := Nat.le_trans (by decide) hf.1
                have hw : wx = w5.drew := hC (by omega)
                clear hf hC
                subst hw
                go_wp2
                exact ⟨_, rfl, ⟨rfl, fun h => absurd h (by decide)⟩, trivial, fun _ => rfl⟩
              · have hf1 : 1 ≤ f := Nat.le_trans (by decide) hf.1
                have hw : wx = w5.drew := hC (by omega)
                clear hf hC
                subst hw
                go_wp2
                exact ⟨_, rfl, ⟨rfl, fun h => absurd h (by decide)⟩, trivial, fun _ => rfl⟩
              · have hf1 : 1 ≤ f := Nat.le_trans (by decide) hf.1
                have hw : wx = w5.drew := hC (by omega)
                clear hf hC
                subst hw
                rw [show u 1 = _ from hd]
                go_wp2
                exact ⟨_, rfl, ⟨rfl, fun h => absurd h (by decide)⟩, trivial, fun _ => rfl⟩
              · have hf1 : 1 ≤ f := Nat.le_trans (by decide) hf.1
                have hw : wx = w5.drew := hC (by omega)
                clear hf hC
                subst hw
                go_wp2
                exact ⟨_, rfl, ⟨rfl, fun h => absurd h (by decide)⟩, trivial, fun _ => rfl⟩
              · have hf1 : 1 ≤ f := Nat.le_trans (by decide) hf.1
                have hw : wx = w5.drew := hC (by omega)
                clear hf hC
                subst hw
                go_wp2
                exact ⟨_, rfl, ⟨rfl, fun h => absurd h (by decide)⟩, trivial, fun _ => rfl⟩
              · have hf1 : 1 ≤ f := Nat.le_trans (by decide) hf.1
                have hw : wx = w5.drew := hC (by omega)
                clear hf hC
                subst hw
                rw [show u 4 = _ from hd]
                go_wp2
                exact ⟨_, rfl, ⟨rfl, fun h => absurd h (by decide)⟩, trivial, fun _ => rfl⟩
              · have hf1 : 1 ≤ f := Nat.le_trans (by decide) hf.1
                have hw : wx = w5.drew := hC (by omega)
                clear hf hC
                subst hw
                rw [show u 3 = _ from hd.1, show u 5 = _ from hd.2]
                go_wp2
                exact ⟨_, rfl, ⟨rfl, fun h => absurd h (by decide)⟩, trivial, fun _ => rfl⟩
              · have hf1 : 1 ≤ f := Nat.le_trans (by decide) hf.1
                have hw : wx = w5.drew := hC (by omega)
                clear hf hC
                subst hw
                rw [show u 6 = _ from hd]
                go_wp2
                exact ⟨_, rfl, ⟨rfl, fun h => absurd h (by decide)⟩, trivial, fun _ => rfl⟩
              · have hf1 : 1 ≤ f := Nat.le_trans (by decide) hf.1
                have hw : wx = w5.drew := hC (by omega)
                clear hf hC
                subst hw
                go_wp2
                exact ⟨_, rfl, ⟨rfl, fun h => absurd h (by decide)⟩, trivial, fun _ => rfl⟩
              · have hf1 : 1 ≤ f := Nat.le_trans (by decide) hf.1
                have hw : wx = w5.drew := hC (by omega)
                clear hf hC
                subst hw
                rw [show u 7 = _ from hd.1, show u 8 = _ from hd.2]
                go_wp2
                exact ⟨_, rfl, ⟨rfl, fun h => absurd h (by decide)⟩, trivial, fun _ => rfl⟩
              · have hf1 : 1 ≤ f := Nat.le_trans (by decide) hf.1
                have hw : wx = w5.drew := hC (by omega)
                clear hf hC
                subst hw
                rw [show u 0 = _ from hd.1, show u 2 = _ from hd.2]
                go_wp2
                exact ⟨_, rfl, ⟨rfl, fun h => absurd h (by decide)⟩, trivial, fun _ => rfl⟩
              · have hf0 : f = 0 := Nat.le_antisymm (Nat.le_trans hf.2 (by decide)) (Nat.zero_le _)
                have hw : wx = w5.drew := hC (by omega)
                clear hf hC
                subst hw
                have HF0 := Lib.hid hf0
                clear hf0
                rw [show u 9 = _ from (by first | exact hd.1 | exact hd.2), show u 10 = _ from (by first | exact hd.2 | exact hd.1)]
                go_wp2
                exact ⟨undef, rfl, ⟨trivial, fun _ => rfl⟩, trivial, fun h => absurd h (by have := HF0.out; omega)⟩
            · intro u f wx hC hfin
              simp only [fillEnd, fillF, Act.put, List.setIfInBounds_toArray, List.set_cons_succ, List.set_cons_zero]
              have hw : wx = w5.drew.setCell ⟨gb, F, none⟩ (.int .i64 (y - mu)) := (hfin 11 (by decide) (by decide)).2 rfl
              clear hfin hC
              obtain ⟨w7, hw7⟩ : ∃ w7, w7 = w5.drew.setCell ⟨gb, F, none⟩ (.int .i64 (y - mu)) := ⟨_, rfl⟩
              have p1' : w7.cell? ⟨b, 1, none⟩ = some (.int .i64 (T : Int)) := by
                rw [hw7]
                exact (World.cell?_setCell_other _ _ _ _ (by intro h; injection h with h1 h2; omega)).trans (cell_drew p1)
              have hN := HN.out
              rw [← hw7] at hN hw
              subst hw
              have hzz : b < wx.heap.size := by rw [hw7]; simp; omega
              clear p0 p1 y0 y1 yb1 yb2 HN hw7
              obtain ⟨qs, hR, hqb⟩ := hN.ro
              have y0 := (hR.at' T hT).1
              have y1 := (hR.at' T hT).2
              have hyb : -(400 - 100 * ((k' + 1 : Nat) : Int) + 2) ≤ qs.getD T 0 ∧ qs.getD T 0 ≤ 400 - 100 * ((k' + 1 : Nat) : Int) + 2 := by
                have hql := hR.len
                rw [getD_at (show T < qs.length by omega)]
                exact hqb _ (List.getElem_mem _)
              clear y
              generalize qs.getD T 0 = y at *
              obtain ⟨yb1, yb2⟩ := hyb
              have hN2 := hN.drew.need T (y + mu) (B' := 400 - 100 * (k' : Int)) (by omega) (by omega) hgbw hrg (by omega) hob
              have HN := Lib.hid hN2
              have hgbz : gb < wx.heap.size := hR.lt.2
              clear hN hN2 hR hqb
              obtain ⟨w8, hw8⟩ : ∃ w8, w8 = wx := ⟨_, rfl⟩
              subst hw8
              go_wp2_with fail
              refine wp_region_flowL 12 none [(0, 69), (1, 70), (2, 71), (3, 72), (4, 73), (5, 74), (6, 75), (7, 76), (8, 77), (9, 78), (10, 79)] (fun i x _ wx => nsV gb b 1 T (.slice (some ⟨gb, 0, none⟩) Z Z) y mu (y + mu) i x ∧ (i = 11 → wx = w8.drew.setCell ⟨gb, T, none⟩ (.int .i64 (y + mu)))) (fun _ _ _ => True) (fun f wx => 1 ≤ f → wx = w8.drew) (by kernel_rfl) (by kernel_rfl) rfl (fun _ => rfl) ?_ ?_ ?_ ?_
              · intro i k hi hk hal x u wx wy hR hV
                have hi' : i < 12 := hi
                have hk' : k < 12 := hk
                rcases k with _ | _ | _ | _ | _ | _ | _ | _ | _ | _ | _ | _ | k
                all_goals first | exact ⟨hV.1, fun h => absurd h (by decide)⟩ | (exfalso; omega) | skip
                rcases i with _ | _ | _ | _ | _ | _ | _ | _ | _ | _ | _ | _ | i
                all_goals first | (exfalso; revert hal; decide) | (exfalso; omega)
              · exact fun _ _ _ _ _ _ _ h => h
              · simp (maxSteps := 4000000) only [eachOp, fillF, List.setIfInBounds_toArray, List.set_cons_succ, List.set_cons_zero]
                refine ⟨?_, ?_, ?_, ?_, ?_, ?_, ?_, ?_, ?_, ?_, ?_, ?_, trivial⟩ <;> intro u f wx hC hd hf <;> (try simp [allV, useOf, Region.binds] at hd)
                · have hf1 : 1 ≤ f := Nat.le_trans (by decide) hf.1
                  have hw : wx = w8.drew := hC (by omega)
                  clear hf hC
                  subst hw
                  go_wp2
                  exact ⟨_, rfl, ⟨rfl, fun h => absurd h (by decide)⟩, trivial, fun _ => rfl⟩
                · have hf1 : 1 ≤ f := Nat.le_trans (by decide) hf.1
                  have hw : wx = w8.drew := hC (by omega)
                  clear hf hC
                  subst hw
                  go_wp2
                  exact ⟨_, rfl, ⟨rfl, fun h => absurd h (by decide)⟩, trivial, fun _ => rfl⟩
                · have hf1 : 1 ≤ f := Nat.le_trans (by decide) hf.1
                  have hw : wx = w8.drew := hC (by omega)
                  clear hf hC
                  subst hw
                  rw [show u 1 = _ from hd]
                  go_wp2
                  exact ⟨_, rfl, ⟨rfl, fun h => absurd h (by decide)⟩, trivial, fun _ => rfl⟩
                · have hf1 : 1 ≤ f := Nat.le_trans (by decide) hf.1
                  have hw : wx = w8.drew := hC (by omega)
                  clear hf hC
                  subst hw
                  go_wp2
                  exact ⟨_, rfl, ⟨rfl, fun h => absurd h (by decide)⟩, trivial, fun _ => rfl⟩
                · have hf1 : 1 ≤ f := Nat.le_trans (by decide) hf.1
                  have hw : wx = w8.drew := hC (by omega)
                  clear hf hC
                  subst hw
                  go_wp2
                  exact ⟨_, rfl, ⟨rfl, fun h => absurd h (by decide)⟩, trivial, fun _ => rfl⟩
                · have hf1 : 1 ≤ f := Nat.le_trans (by decide) hf.1
                  have hw : wx = w8.drew := hC (by omega)
                  clear hf hC
                  subst hw
                  rw [show u 4 = _ from hd]
                  go_wp2
                  exact ⟨_, rfl, ⟨rfl, fun h => absurd h (by decide)⟩, trivial, fun _ => rfl⟩
                · have hf1 : 1 ≤ f := Nat.le_trans (by decide) hf.1
                  have hw : wx = w8.drew := hC (by omega)
                  clear hf hC
                  subst hw
                  rw [show u 3 = _ from hd.1, show u 5 = _ from hd.2]
                  go_wp2
                  exact ⟨_, rfl, ⟨rfl, fun h => absurd h (by decide)⟩, trivial, fun _ => rfl⟩
                · have hf1 : 1 ≤ f := Nat.le_trans (by decide) hf.1
                  have hw : wx = w8.drew := hC (by omega)
                  clear hf hC
                  subst hw
                  rw [show u 6 = _ from hd]
                  go_wp2
                  exact ⟨_, rfl, ⟨rfl, fun h => absurd h (by decide)⟩, trivial, fun _ => rfl⟩
                · have hf1 : 1 ≤ f := Nat.le_trans (by decide) hf.1
                  have hw : wx = w8.drew := hC (by omega)
                  clear hf hC
                  subst hw
                  go_wp2
                  exact ⟨_, rfl, ⟨rfl, fun h => absurd h (by decide)⟩, trivial, fun _ => rfl⟩
                · have hf1 : 1 ≤ f := Nat.le_trans (by decide) hf.1
                  have hw : wx = w8.drew := hC (by omega)
                  clear hf hC
                  subst hw
                  rw [show u 7 = _ from hd.1, show u 8 = _ from hd.2]
                  go_wp2
                  exact ⟨_, rfl, ⟨rfl, fun h => absurd h (by decide)⟩, trivial, fun _ => rfl⟩
                · have hf1 : 1 ≤ f := Nat.le_trans (by decide) hf.1
                  have hw : wx = w8.drew := hC (by omega)
                  clear hf hC
                  subst hw
                  rw [show u 0 = _ from hd.1, show u 2 = _ from hd.2]
                  go_wp2
                  exact ⟨_, rfl, ⟨rfl, fun h => absurd h (by decide)⟩, trivial, fun _ => rfl⟩
                · have hf0 : f = 0 := Nat.le_antisymm (Nat.le_trans hf.2 (by decide)) (Nat.zero_le _)
                  have hw : wx = w8.drew := hC (by omega)
                  clear hf hC
                  subst hw
                  have HF0 := Lib.hid hf0
                  clear hf0
                  rw [show u 9 = _ from (by first | exact hd.1 | exact hd.2), show u 10 = _ from (by first | exact hd.2 | exact hd.1)]
                  go_wp2
                  exact ⟨undef, rfl, ⟨trivial, fun _ => rfl⟩, trivial, fun h => absurd h (by have := HF0.out; omega)⟩
              · intro u f wx hC hfin
                simp only [fillEnd, fillF, Act.put, List.setIfInBounds_toArray, List.set_cons_succ, List.set_cons_zero]
                have hw : wx = w8.drew.setCell ⟨gb, T, none⟩ (.int .i64 (y + mu)) := (hfin 11 (by decide) (by decide)).2 rfl
                clear hfin hC
                have hN := HN.out
                rw [← hw] at hN
                have HNN := Lib.hid hN
                clear hw hN HN y0 y1 p1'
                go_wp2
                go_roundw
                case rel => exact ⟨k', by omega, int_eqN (by omega), HNN.out⟩
                case measure => simp [intOf]
          · have hto' : withinB q1 0 ((Z : Int) - 1) = false := by simpa using hto
            go_wp2_with fail
            refine (l1In_any q0 _ _ _).mono ?_
            rintro e w6 ⟨rfl, rfl⟩
            rw [hfr]
            go_wp2_with fail
            refine (l1In_any q1 _ _ _).mono ?_
            rintro e w6 ⟨rfl, rfl⟩
            rw [hto']
            go_wp2
            go_roundw
            case rel => exact ⟨k', by omega, int_eqN (by omega), HS5.out.more (by omega) (by omega)⟩
            case measure => simp [intOf]
        · have hfr' : withinB q0 0 ((Z : Int) - 1) = false := by simpa using hfr
          go_wp2_with fail
          refine (l1In_any q0 _ _ _).mono ?_
          rintro e w6 ⟨rfl, rfl⟩
          rw [hfr']
          go_wp2
          go_roundw
          case rel => exact ⟨k', by omega, int_eqN (by omega), HS5.out.more (by omega) (by omega)⟩
          case measure => simp [intOf]
    · have hcase : (decide (0 < (k : Int)) = false ∧ decide (0 < k) = false) ∨ (decide (0 < (k : Int)) = true ∧ decide (0 < k) = true ∧ decide (0 < ps.length) = false ∧ decide (0 < (ps.length : Int)) = false) := by
        by_cases hk0 : 0 < k
        · exact .inr ⟨decide_eq_true (by omega), decide_eq_true hk0, decide_eq_false (fun h => hgo ⟨hk0, h⟩), decide_eq_false (fun h => hgo ⟨hk0, by omega⟩)⟩
        · exact .inl ⟨decide_eq_false (by omega), decide_eq_false hk0⟩
      have hZd : decide (0 < Z) = true := decide_eq_true (by omega)
      obtain ⟨ns, n0, n1, n2, n3⟩ := id st.nb
      have HSTR := Lib.hid (st.more (K' := K + 3000) (B' := 400) (by omega) (by omega))
      have hwr : gb < wr.heap.size := by obtain ⟨qs, r1, -⟩ := st.ro; exact r1.lt.2
      clear st hgo
      rcases hcase with ⟨hkd, hkd2⟩ | ⟨hkd, hkd2, hpd, hpd2⟩
      all_goals
        go_wp2_with fail
        refine (odd_any 9 rg m c _ A _ HSTR.out.rd (by omega) (by omega) (by omega)).mono ?_
        rintro e w5 ⟨bb, rfl, hr5, hg5, hz5⟩
        have hS5 := HSTR.out.pick hg5 (hr5.more (K' := K + 3100) (by omega)) hrg (by omega) (by omega)
        clear n0 n1 n2 n3 ns hr5 hg5 HSTR
        cases bb with
        | false =>
          obtain ⟨ns, n0, n1, n2, n3⟩ := id hS5.nb
          obtain ⟨bs, b0, b1, b2, b3⟩ := id hS5.rb
          obtain ⟨qs, hR, hqb⟩ := hS5.ro
          have hql := hR.len
          have HI := Lib.hid (And.intro hR.ints (And.intro hS5.pi (And.intro hS5.rd (And.intro hS5.gr hqb))))
          clear hS5 hR hqb
          go_wp2
          refine bodyPost_ret (v := .tuple #[.agg #[.int .i64 Z, .slice PA ps.length pc], .slice (some ⟨gb, 0, none⟩) Z Z]) (by simp [results, Try.results80, go_sem, b0, b1]) rfl ⟨Z, ps, _, _, qs, rfl, ?_, ?_, ?_, ?_, hl8, hz1, hz6, by omega, fun x hx => by have := HI.out.2.2.2.2 x hx; omega, HBD.out⟩
          · exact ((HI.out.2.1.setLow (by simp)).setLow (by simp)).mono (by omega)
          · exact ((HI.out.1.setLow (by show w.heap.size < gb; omega)).setLow (by show w.heap.size < gb; omega)).mono (by omega)
          · exact ((HI.out.2.2.1.more (K' := K + 4000) (by omega)).set (by show rg < w.heap.size; omega) _).set (by show rg < w.heap.size; omega) _
          · exact grow_set (grow_set HI.out.2.2.2.1 (.inl (Nat.le_refl _)) _) (.inl (Nat.le_refl _)) _
        | true =>
          go_wp2_with fail
          refine (pick_any (Z : Int) rg m c _ A _ hS5.rd (by omega) (by omega) (by omega)).mono ?_
          rintro e w6 ⟨x, rfl, x0, x1, hr6, hg6, hz6'⟩
          have hS6 := hS5.pick hg6 (hr6.more (K' := K + 3200) (by omega)) hrg (by omega) (by omega)
          clear hS5 hr6 hg6
          go_wp2_with fail
          refine (pick_any 5 rg m c _ A _ hS6.rd (by omega) (by omega) (by omega)).mono ?_
          rintro e w7 ⟨x2, rfl, x20', x21', hr7, hg7, hz7⟩
          have hS7 := hS6.pick hg7 (hr7.more (K' := K + 3300) (by omega)) hrg (by omega) (by omega)
          clear hS6 hr7 hg7
          obtain ⟨F, rfl⟩ := Int.eq_ofNat_of_zero_le x0
          have hF : F < Z := by omega
          obtain ⟨qs0, hR0, hqb0⟩ := hS7.ro
          have y0 := (hR0.at' F hF).1
          have y1 := (hR0.at' F hF).2
          generalize qs0.getD F 0 = y at *
          have hw7 : gb < w7.heap.size := hR0.lt.2
          have hR1 := hR0.set F (x2 - 2)
          have hob : (Value.slice PA ps.length pc).ownBlock ≠ some gb := fun e => by have := HOB.out gb e; omega
          have hN := hS7.need F (x2 - 2) (B' := 400) (by omega) (by omega) hgbw hrg (by omega) hob
          obtain ⟨ns, n0, n1, n2, n3⟩ := id hN.nb
          obtain ⟨bs, b0, b1, b2, b3⟩ := id hN.rb
          obtain ⟨qs, hR, hqb⟩ := hN.ro
          have hql := hR.len
          have HI := Lib.hid (And.intro hR.ints (And.intro hN.pi (And.intro hN.rd (And.intro hN.gr hqb))))
          clear hS7 hR hqb hR0 hR1 hqb0 hN
          go_upto_region 13 with fail
          generalize hw8 : World.setCell w7 _ _ = w8 at *
          go_wp2
          refine bodyPost_ret (v := .tuple #[.agg #[.int .i64 Z, .slice PA ps.length pc], .slice (some ⟨gb, 0, none⟩) Z Z]) (by simp [results, Try.results80, go_sem, b0, b1]) rfl ⟨Z, ps, _, _, qs, rfl, ?_, ?_, ?_, ?_, hl8, hz1, hz6, by omega, fun x hx => by have := HI.out.2.2.2.2 x hx; omega, HBD.out⟩
          · exact ((HI.out.2.1.setLow (by simp)).setLow (by simp)).mono (by omega)
          · exact ((HI.out.1.setLow (by show w.heap.size < gb; omega)).setLow (by show w.heap.size < gb; omega)).mono (by omega)
          · exact ((HI.out.2.2.1.more (K' := K + 4000) (by omega)).set (by show rg < w.heap.size; omega) _).set (by show rg < w.heap.size; omega) _
          · exact grow_set (grow_set HI.out.2.2.2.1 (.inl (Nat.le_refl _)) _) (.inl (Nat.le_refl _)) _

end Go.Proofs.Ytphbmlephldaaaa

/- Contracts of the laws' draws of chapter 10: a net and needs. -/
namespace Go.Proofs.Ytphbmlephldaaaa
open Go.RowKit

/-- what a draw of a net and needs leaves -/
def DrawnNeeds (w : World) (e : Ending) (w' : World) : Prop :=
  ∃ (z : Int) (ps : List Pp) (u o : Value) (nd : List Int), e = .returned (.tuple #[.agg #[.int .i64 z, u], o]) ∧ Pipes w' w.heap.size u ps ∧ Ints w' w.heap.size o nd ∧ Below w.heap.size w w' ∧ ps.length ≤ 8 ∧ 1 ≤ z ∧ z ≤ 6 ∧ nd.length ≤ 6 ∧ ∀ x ∈ nd, -1000 ≤ x ∧ x ≤ 1000

set_option maxHeartbeats 1000000 in
set_option maxRecDepth 20000 in
theorem drawNeedsOk_any (v : Value) (n : Nat) (w : World) (h : ArgBytes w v n) : Calls Try.prog 33 #[v] w (DrawnNeeds w) := by
  have bx0 := Box2.new w (.int .i64 0) (.slice none 0 0) 25
  go_enter Try.func33, Try.ntmps33
  go_wp2_with fail
  refine (l20Open_any v n _ (h.keep (by (repeat (first | (with_reducible assumption) | (with_reducible exact Below.refl _ _) | ((with_reducible refine Below.alloc ?_ ?hsz _); (case hsz => (first | omega | (simp; done) | (simp; omega) | (simp at *; omega)))) | ((with_reducible refine Below.setCell ?_ ?hsz _); (case hsz => (first | omega | (simp; done) | (simp; omega) | (simp at *; omega)))) | (with_reducible refine Below.drew ?_) | (with_reducible refine below_drewN ?_ _) | ((with_reducible refine Below.trans ?_ (Below.mono (by with_reducible assumption) ?hsz)); (case hsz => (first | omega | (simp; done) | (simp; omega) | (simp at *; omega))))))))).mono ?_
  rintro e w1 ⟨A, m, c, rfl, hr1, hb1, hz1⟩
  have bx1 := bx0.keep (hb1.mono (by simp))
  rw [World.size_alloc] at hr1 hz1
  have hgo : Below w.heap.size w w1 := by (repeat (first | (with_reducible assumption) | (with_reducible exact Below.refl _ _) | ((with_reducible refine Below.alloc ?_ ?hsz _); (case hsz => (first | omega | (simp; done) | (simp; omega) | (simp at *; omega)))) | ((with_reducible refine Below.setCell ?_ ?hsz _); (case hsz => (first | omega | (simp; done) | (simp; omega) | (simp at *; omega)))) | (with_reducible refine Below.drew ?_) | (with_reducible refine below_drewN ?_ _) | ((with_reducible refine Below.trans ?_ (Below.mono (by with_reducible assumption) ?hsz)); (case hsz => (first | omega | (simp; done) | (simp; omega) | (simp at *; omega))))))
  go_wp2_with fail
  with_reducible refine (l20Needs_any (w.heap.size + 1) m c 0 A _ hr1 (by omega)).mono ?_
  rintro e w2 ⟨z, ps, u, o, nd, rfl, hp2, ho2, hr2, hg2, hl8, hzl, hzh, hn6, hnb, -⟩
  have bx2 := bx1.grown hg2 (by simp)
  have hs2 := hg2.size
  have hb2 : Below w.heap.size w w2 := hgo.trans (below_grow hg2 (by omega) (fun q hq => by injection hq with hq; omega))
  obtain ⟨PA, pc, rfl, hc1, hc2, hsm, -⟩ := hp2.form
  obtain ⟨OA, oc, rfl, hd1, hd2, hsn, -⟩ := ho2.form
  obtain ⟨bs, b0, b1, b2, b3⟩ := id bx2
  go_wp2
  refine bodyPost_ret (v := .tuple #[.agg #[.int .i64 z, .slice PA ps.length pc], .slice OA nd.length oc]) (by simp [results, Try.results33, go_sem, b0, b1]) rfl ⟨z, ps, _, _, nd, rfl, ?_, ?_, ?_, hl8, hzl, hzh, hn6, hnb⟩
  · refine Pipes.mono (b := w1.heap.size) ?_ (by omega)
    (repeat (first | (with_reducible assumption) | ((with_reducible refine Pipes.setLow ?_ ?hsz); (case hsz => (first | omega | (simp; done) | (simp; omega) | (simp at *; omega)))) | (with_reducible refine Pipes.alloc' ?_ _) | (with_reducible refine Pipes.drew' ?_) | (with_reducible refine Pipes.drewN' ?_ _) | ((with_reducible refine Pipes.keep ?_ (by with_reducible assumption)))))
  · refine Ints.mono (b := w1.heap.size) ?_ (by omega)
    (repeat (first | (with_reducible assumption) | ((with_reducible refine Ints.setLow ?_ ?hsz); (case hsz => (first | omega | (simp; done) | (simp; omega) | (simp at *; omega)))) | (with_reducible refine Ints.alloc' ?_ _) | (with_reducible refine Ints.drew' ?_) | (with_reducible refine Ints.drewN' ?_ _) | ((with_reducible refine Ints.keep ?_ (by with_reducible assumption)))))
  · (repeat (first | (with_reducible assumption) | (with_reducible exact Below.refl _ _) | ((with_reducible refine Below.alloc ?_ ?hsz _); (case hsz => (first | omega | (simp; done) | (simp; omega) | (simp at *; omega)))) | ((with_reducible refine Below.setCell ?_ ?hsz _); (case hsz => (first | omega | (simp; done) | (simp; omega) | (simp at *; omega)))) | (with_reducible refine Below.drew ?_) | (with_reducible refine below_drewN ?_ _) | ((with_reducible refine Below.trans ?_ (Below.mono (by with_reducible assumption) ?hsz)); (case hsz => (first | omega | (simp; done) | (simp; omega) | (simp at *; omega))))))

set_option maxHeartbeats 1000000 in
set_option maxRecDepth 20000 in
theorem drawCheapestFeed_any (v : Value) (n : Nat) (w : World) (h : ArgBytes w v n) : Calls Try.prog 40 #[v] w (DrawnNeeds w) := by
  have bx0 := Box2.new w (.int .i64 0) (.slice none 0 0) 25
  go_enter Try.func40, Try.ntmps40
  go_wp2_with fail
  refine (l20Open_any v n _ (h.keep (by (repeat (first | (with_reducible assumption) | (with_reducible exact Below.refl _ _) | ((with_reducible refine Below.alloc ?_ ?hsz _); (case hsz => (first | omega | (simp; done) | (simp; omega) | (simp at *; omega)))) | ((with_reducible refine Below.setCell ?_ ?hsz _); (case hsz => (first | omega | (simp; done) | (simp; omega) | (simp at *; omega)))) | (with_reducible refine Below.drew ?_) | (with_reducible refine below_drewN ?_ _) | ((with_reducible refine Below.trans ?_ (Below.mono (by with_reducible assumption) ?hsz)); (case hsz => (first | omega | (simp; done) | (simp; omega) | (simp at *; omega))))))))).mono ?_
  rintro e w1 ⟨A, m, c, rfl, hr1, hb1, hz1⟩
  have bx1 := bx0.keep (hb1.mono (by simp))
  rw [World.size_alloc] at hr1 hz1
  have hgo : Below w.heap.size w w1 := by (repeat (first | (with_reducible assumption) | (with_reducible exact Below.refl _ _) | ((with_reducible refine Below.alloc ?_ ?hsz _); (case hsz => (first | omega | (simp; done) | (simp; omega) | (simp at *; omega)))) | ((with_reducible refine Below.setCell ?_ ?hsz _); (case hsz => (first | omega | (simp; done) | (simp; omega) | (simp at *; omega)))) | (with_reducible refine Below.drew ?_) | (with_reducible refine below_drewN ?_ _) | ((with_reducible refine Below.trans ?_ (Below.mono (by with_reducible assumption) ?hsz)); (case hsz => (first | omega | (simp; done) | (simp; omega) | (simp at *; omega))))))
  go_wp2_with fail
  with_reducible refine (l20Needs_any (w.heap.size + 1) m c 0 A _ hr1 (by omega)).mono ?_
  rintro e w2 ⟨z, ps, u, o, nd, rfl, hp2, ho2, hr2, hg2, hl8, hzl, hzh, hn6, hnb, -⟩
  have bx2 := bx1.grown hg2 (by simp)
  have hs2 := hg2.size
  have hb2 : Below w.heap.size w w2 := hgo.trans (below_grow hg2 (by omega) (fun q hq => by injection hq with hq; omega))
  obtain ⟨PA, pc, rfl, hc1, hc2, hsm, -⟩ := hp2.form
  obtain ⟨OA, oc, rfl, hd1, hd2, hsn, -⟩ := ho2.form
  obtain ⟨bs, b0, b1, b2, b3⟩ := id bx2
  go_wp2
  refine bodyPost_ret (v := .tuple #[.agg #[.int .i64 z, .slice PA ps.length pc], .slice OA nd.length oc]) (by simp [results, Try.results40, go_sem, b0, b1]) rfl ⟨z, ps, _, _, nd, rfl, ?_, ?_, ?_, hl8, hzl, hzh, hn6, hnb⟩
  · refine Pipes.mono (b := w1.heap.size) ?_ (by omega)
    (repeat (first | (with_reducible assumption) | ((with_reducible refine Pipes.setLow ?_ ?hsz); (case hsz => (first | omega | (simp; done) | (simp; omega) | (simp at *; omega)))) | (with_reducible refine Pipes.alloc' ?_ _) | (with_reducible refine Pipes.drew' ?_) | (with_reducible refine Pipes.drewN' ?_ _) | ((with_reducible refine Pipes.keep ?_ (by with_reducible assumption)))))
  · refine Ints.mono (b := w1.heap.size) ?_ (by omega)
    (repeat (first | (with_reducible assumption) | ((with_reducible refine Ints.setLow ?_ ?hsz); (case hsz => (first | omega | (simp; done) | (simp; omega) | (simp at *; omega)))) | (with_reducible refine Ints.alloc' ?_ _) | (with_reducible refine Ints.drew' ?_) | (with_reducible refine Ints.drewN' ?_ _) | ((with_reducible refine Ints.keep ?_ (by with_reducible assumption)))))
  · (repeat (first | (with_reducible assumption) | (with_reducible exact Below.refl _ _) | ((with_reducible refine Below.alloc ?_ ?hsz _); (case hsz => (first | omega | (simp; done) | (simp; omega) | (simp at *; omega)))) | ((with_reducible refine Below.setCell ?_ ?hsz _); (case hsz => (first | omega | (simp; done) | (simp; omega) | (simp at *; omega)))) | (with_reducible refine Below.drew ?_) | (with_reducible refine below_drewN ?_ _) | ((with_reducible refine Below.trans ?_ (Below.mono (by with_reducible assumption) ?hsz)); (case hsz => (first | omega | (simp; done) | (simp; omega) | (simp at *; omega))))))

end Go.Proofs.Ytphbmlephldaaaa
