/- Plain facts. -/
import Derived.Test.YtnefafpfeagflaaHA
import Derived.Test.YtnefafpfeagflaaAR
import Derived.Test.YtnefafpfeagflaaHB
import Derived.Test.YtnefafpfeagflaaA6
/- A stack of parts, each of two cells, in a row of its own. -/
namespace Go.Proofs.Ytnefafpfeagflaa
open Go.RowKit

/-- what is asked of the relation between a part and its two cells -/
structure PairOk (ty : TypeId) (R : World → Nat → Value → Value → Tm → Prop) : Prop where
  keep : ∀ {w w' : World} {b : Nat} {x y : Value} {U : Tm}, R w b x y U → Below w.heap.size w w' → R w' b x y U
  mono : ∀ {w : World} {b b' : Nat} {x y : Value} {U : Tm}, R w b x y U → b' ≤ b → R w b' x y U
  oth : ∀ {w w' : World} {b b2 n : Nat} {x y u : Value} {vs : List Value} {U : Tm}, R w b x y U → w.ownsRow b2 ty 2 u n vs → w.grownBy w' u.ownBlock → R w' b x y U

def pairC (c : Value × Value) : List Value := [c.1, c.2]
def StkP (ty : TypeId) (R : World → Nat → Value → Value → Tm → Prop) (w : World) (b : Nat) (v : Value) (n : Nat) (Ts : List Tm) : Prop :=
  ∃ cs : List (Value × Value), cs.length = Ts.length ∧ Ts.length = n ∧ w.ownsRow b ty 2 v n (cs.flatMap pairC) ∧ ∀ k (h : k < Ts.length) (h' : k < cs.length), R w b cs[k].1 cs[k].2 Ts[k]

theorem pair_len (cs : List (Value × Value)) : (cs.flatMap pairC).length = cs.length * 2 := by
  induction cs with
  | nil => rfl
  | cons c cs ih => rw [List.flatMap_cons, List.length_append, ih]; simp [pairC]; omega
theorem pair_at (cs : List (Value × Value)) (k : Nat) (hk : k < cs.length) : (cs.flatMap pairC)[k * 2]? = some cs[k].1 ∧ (cs.flatMap pairC)[k * 2 + 1]? = some cs[k].2 := by
  induction cs generalizing k with
  | nil => simp at hk
  | cons c cs ih =>
    cases k with
    | zero => simp [List.flatMap_cons, pairC]
    | succ k =>
      have h := ih k (by simpa using hk)
      have e : (k + 1) * 2 = k * 2 + 2 := by omega
      rw [e, List.flatMap_cons]
      simpa [pairC] using h
theorem pair_set (cs : List (Value × Value)) (k : Nat) (hk : k < cs.length) (x y : Value) : ((cs.flatMap pairC).set (k * 2) x).set (k * 2 + 1) y = (cs.set k (x, y)).flatMap pairC := by
  induction cs generalizing k with
  | nil => simp at hk
  | cons c cs ih =>
    cases k with
    | zero => simp [List.flatMap_cons, pairC]
    | succ k =>
      have h := ih k (by simpa using hk)
      have e : (k + 1) * 2 = k * 2 + 2 := by omega
      rw [e, List.set_cons_succ, List.flatMap_cons, List.flatMap_cons, ← h]
      simp [pairC]
theorem pair_take (cs : List (Value × Value)) (k : Nat) : (cs.flatMap pairC).take (k * 2) = (cs.take k).flatMap pairC := by
  induction cs generalizing k with
  | nil => simp
  | cons c cs ih =>
    cases k with
    | zero => simp
    | succ k =>
      have e : (k + 1) * 2 = k * 2 + 2 := by omega
      rw [e, List.take_succ_cons, List.flatMap_cons, List.flatMap_cons, ← ih]
      simp [pairC]

section
variable {ty : TypeId} {R : World → Nat → Value → Value → Tm → Prop} (ok : PairOk ty R)
include ok
theorem StkP.keep {w w' : World} {b n : Nat} {v : Value} {Ts : List Tm} (h : StkP ty R w b v n Ts) (hb : Below w.heap.size w w') : StkP ty R w' b v n Ts := by
  obtain ⟨cs, h1, h2, h3, h4⟩ := h
  exact ⟨cs, h1, h2, own_keep h3 (Nat.le_refl _) hb, fun k hk hk' => ok.keep (h4 k hk hk') hb⟩
theorem StkP.top {w : World} {b g c M : Nat} {x y : Value} {Ts : List Tm} {U : Tm} (h : StkP ty R w b (.slice (some ⟨g, 0, none⟩) (M + 2) c) (M + 2) Ts) (hs : R w b x y U) :
    StkP ty R ((w.setCell ⟨g, M * 2, none⟩ x).setCell ⟨g, M * 2 + 1, none⟩ y) b (.slice (some ⟨g, 0, none⟩) (M + 1) c) (M + 1) (Ts.take M ++ [U]) := by
  obtain ⟨cs, h1, h2, h3, h4⟩ := h
  have hv : M < cs.length := by omega
  have hs1 := h3.stored (M * 2) x
  have hs2 := hs1.1.stored (M * 2 + 1) y
  rw [pair_set cs M hv x y] at hs2
  have hg : w.grownBy ((w.setCell ⟨g, M * 2, none⟩ x).setCell ⟨g, M * 2 + 1, none⟩ y) (Value.slice (some ⟨g, 0, none⟩) (M + 2) c).ownBlock := hs1.2.trans hs2.2
  have hf := own_fst hs2.1 (m := M + 1) (by omega)
  rw [pair_take] at hf
  have e : (cs.set M (x, y)).take (M + 1) = cs.take M ++ [(x, y)] := by
    rw [List.take_succ_eq_append_getElem (by simp; exact hv)]
    simp [List.take_set]
    exact List.set_eq_of_length_le (by simp; omega)
  rw [e] at hf
  have hl : (cs.take M ++ [(x, y)]).length = M + 1 := by simp; omega
  have hl2 : (Ts.take M ++ [U]).length = M + 1 := by simp; omega
  refine ⟨_, by rw [hl, hl2], hl2, hf, fun k hk hk' => ?_⟩
  by_cases hkM : k < M
  · have e1 : (cs.take M ++ [(x, y)])[k] = cs[k]'(by omega) := by rw [List.getElem_append_left (by simp; omega)]; simp
    have e2 : (Ts.take M ++ [U])[k] = Ts[k]'(by omega) := by rw [List.getElem_append_left (by simp; omega)]; simp
    rw [e1, e2]
    exact ok.oth (h4 k (by omega) (by omega)) h3 hg
  · have hkM : k = M := by omega
    subst hkM
    have e1 : (cs.take k ++ [(x, y)])[k] = (x, y) := by rw [List.getElem_append_right (by simp; omega)]; simp
    have e2 : (Ts.take k ++ [U])[k] = U := by rw [List.getElem_append_right (by simp; omega)]; simp
    rw [e1, e2]
    exact ok.oth hs h3 hg
theorem StkP.snoc {w w7 : World} {b n : Nat} {v u x y : Value} {cs : List (Value × Value)} {Ts : List Tm} {U : Tm} (h1 : cs.length = Ts.length) (h2 : Ts.length = n) (h3 : w.ownsRow b ty 2 v n (cs.flatMap pairC))
    (h4 : ∀ k (h : k < Ts.length) (h' : k < cs.length), R w b cs[k].1 cs[k].2 Ts[k]) (hr : R w b x y U) (hg : w.grownBy w7 v.ownBlock) (ho : w7.ownsRow b ty 2 u (n + 1) (cs.flatMap pairC ++ [x, y])) : StkP ty R w7 b u (n + 1) (Ts ++ [U]) := by
  refine ⟨cs ++ [(x, y)], by simp [h1], by simp [h2], by rw [List.flatMap_append]; exact ho, fun k hk hk' => ?_⟩
  by_cases hlt : k < Ts.length
  · have e1 : (cs ++ [(x, y)])[k] = cs[k]'(by omega) := List.getElem_append_left (by omega)
    have e2 : (Ts ++ [U])[k] = Ts[k] := List.getElem_append_left hlt
    rw [e1, e2]
    exact ok.oth (h4 k hlt (by omega)) h3 hg
  · have hkl : k = Ts.length := by simp at hk; omega
    subst hkl
    have e1 : (cs ++ [(x, y)])[Ts.length] = (x, y) := by simp [← h1]
    have e2 : (Ts ++ [U])[Ts.length] = U := by simp
    rw [e1, e2]
    exact ok.oth hr h3 hg
end

/-- a row lies in another block than one of another type -/
theorem own_oth {w w' : World} {b b2 n m s s' : Nat} {e ty : TypeId} {v u : Value} {xs vs : List Value} (h : w.ownsRow b e s v n xs) (hne : e ≠ ty) (ho : w.ownsRow b2 ty s' u m vs) (hg : w.grownBy w' u.ownBlock) : w'.ownsRow b e s v n xs := by
  refine h.kept hg ?_
  rcases h.2 with ⟨h0, -⟩ | ⟨g1, c1, cur1, h0, -, hh, -⟩
  · left; rw [h0]; rfl
  · right
    rcases ho.2 with ⟨h2, -⟩ | ⟨g2, c2, cur2, h2, -, hh2, -⟩
    · rw [h0, h2]; intro e; cases e
    · rw [h0, h2]
      intro e
      have e : g1 = g2 := by injection e
      subst e
      rw [hh] at hh2
      injection hh2 with e2
      injection e2 with _ e3 _
      exact hne e3

theorem Tm.thens_lt (T : Tm) : T.thens + 1 ≤ T.pipes := by
  induction T with
  | pipe => simp [Tm.thens, Tm.pipes]
  | two s a b iha ihb => cases s <;> simp [Tm.thens, Tm.pipes] <;> omega

end Go.Proofs.Ytnefafpfeagflaa

/- Contracts of the functions of chapter 8 in the program: the stack of nets, NetOfTerm. -/
namespace Go.Proofs.Ytnefafpfeagflaa
open Go.RowKit

theorem net_info : (Try.prog.info? 33).map (fun i => (i.zero, i.size, i.bytes)) = some (some (.agg #[.int .i64 0, .slice none 0 0]), 2, 32) := by kernel_rfl

/-- the net of a part -/
def NetR (w : World) (b : Nat) (x y : Value) (U : Tm) : Prop := x = .int .i64 ((U.thens : Int) + 2) ∧ Pipes w b y (placeT U 0 1 2)
theorem netOk2 : PairOk 33 NetR where
  keep := fun h hb => ⟨h.1, h.2.keep hb⟩
  mono := fun h hb => ⟨h.1, h.2.mono hb⟩
  oth := fun h ho hg => ⟨h.1, own_oth h.2.1 (by decide) ho hg, h.2.2⟩
theorem net_bds (U : Tm) (hg : U.good) (h7 : U.pipes ≤ 7) : (placeT U 0 1 2).length ≤ 100 ∧ (2 ≤ (U.thens : Int) + 2 ∧ (U.thens : Int) + 2 ≤ 50) ∧ ∀ p ∈ placeT U 0 1 2, (0 ≤ p.fr ∧ p.fr ≤ 100) ∧ 0 ≤ p.to ∧ p.to ≤ 100 := by
  have h := U.thens_lt
  refine ⟨by rw [placeT_len]; omega, by omega, fun p hp => ?_⟩
  have := ok_ends (placeT_in U ((U.thens : Int) + 2) 0 1 2 hg (by omega) (by omega) (by omega) (by omega) p hp).1
  omega
theorem join_n {s : Bool} {a b : Tm} : joinN s ((a.thens : Int) + 2) ((b.thens : Int) + 2) = ((Tm.two s a b).thens : Int) + 2 := by
  cases s <;> simp [joinN, Tm.thens] <;> omega
theorem join_p {s : Bool} {a b : Tm} : joinP s ((a.thens : Int) + 2) (placeT a 0 1 2) (placeT b 0 1 2) = placeT (Tm.two s a b) 0 1 2 := by
  cases s
  · simp only [joinP, placeT, Bool.false_eq_true, if_false]
    rw [placeT_moved a _ _ _ _ _ _ (by omega), placeT_moved b _ _ _ _ _ _ (by omega)]
    simp [movedN]
    congr 1; omega
  · simp only [joinP, placeT, if_true]
    rw [placeT_moved b _ _ _ _ _ _ (by omega)]
    simp [movedN]

/-- what the operations yield -/
def builtNetV (W : World) (B g M c1 mb : Nat) (s : Bool) (v1 v2 : Value) (U : Tm) (fv : Value) : Nat → Value → World → Prop
  | 0, x, _ => x = .slice (some ⟨g, 0, none⟩) (M + 2) c1
  | 1, x, _ => x = .int .i64 ((M : Int) + 2 - 1)
  | 2, x, _ => x = .int .i64 (M : Int)
  | 3, x, _ => x = fv
  | 4, x, _ => x = .pointer (some ⟨mb, 0, none⟩)
  | 5, x, _ => x = .int .i64 (kindI s)
  | 6, x, _ => x = .slice (some ⟨g, 0, none⟩) (M + 2) c1
  | 7, x, _ => x = .int .i64 ((M : Int) + 2 - 1)
  | 8, x, _ => x = .int .i64 (M : Int)
  | 9, x, _ => x = .pointer (some ⟨g, M * 2, none⟩)
  | 10, x, _ => x = v1
  | 11, x, _ => x = .slice (some ⟨g, 0, none⟩) (M + 2) c1
  | 12, x, _ => x = .int .i64 ((M : Int) + 2 - 1)
  | 13, x, _ => x = .pointer (some ⟨g, (M + 1) * 2, none⟩)
  | 14, x, _ => x = v2
  | 15, x, w => ∃ a c, x = .agg #[a, c] ∧ NetR w B a c U
  | 16, x, _ => x = .pointer (some ⟨g, M * 2, none⟩)
  | 17, x, w => x = x ∧ ∃ w' a c, Below W.heap.size W w' ∧ NetR w' B a c U ∧ w = (w'.setCell ⟨g, M * 2, none⟩ a).setCell ⟨g, M * 2 + 1, none⟩ c
  | _, _, _ => True

set_option maxHeartbeats 8000000 in
set_option maxRecDepth 20000 in
theorem builtNet_any (T : Tm) (hgd : T.good) (h7 : T.pipes ≤ 7) (v : Value) (w : World) (h : ArgMarks w v T.marks) :
    Calls Try.prog 41 #[v, .func (Fn.func 42) #[] #[], .func (Fn.func 43) #[] #[]] w fun e w' => ∃ x y, e = .returned (.agg #[x, y]) ∧ NetR w' w.heap.size x y T ∧ Below w.heap.size w w' := by
  obtain ⟨A, c, rfl, hc1, hc2, hcell⟩ := h
  unfold maxLen at hc2
  have h13 := T.len13 h7
  obtain ⟨i0, hi0, hz0, hz1, hz2⟩ := info_parts net_info
  have HE := Lib.hid (stack_end T hgd)
  have HA := Lib.hid (fun k hk => stack_all T hgd k hk)
  have HN := Lib.hid (fun k hk => stack_next T hgd k hk)
  obtain ⟨L, hL⟩ : ∃ L, T.marks.length = L := ⟨_, rfl⟩
  rw [hL] at hc1 h13 ⊢
  have HL := Lib.hid hL
  clear hL
  obtain ⟨W0, hW0⟩ : ∃ W, W = w.alloc (.cells #[.int .i64 0, .slice none 0 0] 33) := ⟨_, rfl⟩
  have hb0 : Below w.heap.size w W0 := by rw [hW0]; (repeat (first | (with_reducible assumption) | (with_reducible exact Below.refl _ _) | ((with_reducible refine Below.alloc ?_ ?hsz _); (case hsz => (first | omega | (simp; done) | (simp; omega) | (simp at *; omega)))) | ((with_reducible refine Below.setCell ?_ ?hsz _); (case hsz => (first | omega | (simp; done) | (simp; omega) | (simp at *; omega)))) | (with_reducible refine Below.drew ?_) | (with_reducible refine below_drewN ?_ _) | ((with_reducible refine Below.trans ?_ (Below.mono (by with_reducible assumption) ?hsz)); (case hsz => (first | omega | (simp; done) | (simp; omega) | (simp at *; omega))))))
  have hw0 : W0.heap.size = w.heap.size + 1 := by rw [hW0]; simp
  have q0 : W0.cell? ⟨w.heap.size, 0, none⟩ = some (.int .i64 0) := by rw [hW0]; go_simp
  have q1 : W0.cell? ⟨w.heap.size, 1, none⟩ = some (.slice none 0 0) := by rw [hW0]; go_simp
  have k0 : W0.frozen? ⟨w.heap.size, 0, none⟩ = false := by rw [hW0]; go_simp
  have k1 : W0.frozen? ⟨w.heap.size, 1, none⟩ = false := by rw [hW0]; go_simp
  go_enter Try.func41, Try.ntmps41
  go_wp2
  rw [← hW0]
  go_loopw [13, 7] (fun i t wr => ∃ (k n c1 : Nat) (A1 : Option Addr), k ≤ L ∧ i = .int .i64 k ∧ t = .slice A1 n c1 ∧ (stackT T k).length = n ∧
      StkP 33 NetR wr W0.heap.size (.slice A1 n c1) n (stackT T k).reverse ∧ Below W0.heap.size W0 wr) (fun i _ _ => L - (intOf i).toNat)
  case atStart => exact ⟨0, 0, 0, none, by omega, rfl, rfl, rfl, ⟨[], rfl, rfl, World.ownsRow_nil _ _ _ 2, fun k hk => by simp [stackT, runT] at hk⟩, by (repeat (first | (with_reducible assumption) | (with_reducible exact Below.refl _ _) | ((with_reducible refine Below.alloc ?_ ?hsz _); (case hsz => (first | omega | (simp; done) | (simp; omega) | (simp at *; omega)))) | ((with_reducible refine Below.setCell ?_ ?hsz _); (case hsz => (first | omega | (simp; done) | (simp; omega) | (simp at *; omega)))) | (with_reducible refine Below.drew ?_) | (with_reducible refine below_drewN ?_ _) | ((with_reducible refine Below.trans ?_ (Below.mono (by with_reducible assumption) ?hsz)); (case hsz => (first | omega | (simp; done) | (simp; omega) | (simp at *; omega))))))⟩
  case round =>
    obtain ⟨k, n, c1, A1, hk, rfl, rfl, hn, hstk, hb⟩ := hrel
    have hbw : Below w.heap.size w wr := hb0.trans (hb.mono (by omega))
    obtain ⟨hcr, hfr, hzr⟩ := bcell hbw
    clear hbw
    have hzW := hb.size
    have hkT : k ≤ T.marks.length := by have := HL.out; omega
    obtain ⟨hga, hgm, hgn⟩ := HA.out k hkT
    have hnk : n ≤ 13 := by omega
    by_cases hlt : k < L
    · have hltT : k < T.marks.length := by have := HL.out; omega
      obtain ⟨g, o, rfl, hg2, d0, d1, d2⟩ := hcell k hltT
      have hgr : g < wr.heap.size := by omega
      rcases HN.out k hltT with ⟨h, p, hm, hh, hp, hs⟩ | ⟨s, a, b, r, hm, hst, hs⟩
      · rw [hm] at d0 d1 d2
        have HS := Lib.hid hs
        have HM := Lib.hid hn
        clear hm hs hn
        go_wp2_with fail
        refine (pipeNet_any 0 h p _).mono ?_
        rintro e w2 ⟨r, rfl, hr0, hb2⟩
        obtain ⟨A9, c9, rfl, -, -, -, -⟩ := hr0.form
        obtain ⟨n9, hn9⟩ : ∃ n9, [(⟨0, 1, 0, h, p⟩ : Pp)].length = n9 := ⟨_, rfl⟩
        rw [hn9] at hr0 ⊢
        clear hn9
        have hr : NetR _ _ _ _ (.pipe h p) := ⟨rfl, hr0⟩
        clear hr0
        have hstk2 := StkP.keep netOk2 hstk (w' := w2) (by (repeat (first | (with_reducible assumption) | (with_reducible exact Below.refl _ _) | ((with_reducible refine Below.alloc ?_ ?hsz _); (case hsz => (first | omega | (simp; done) | (simp; omega) | (simp at *; omega)))) | ((with_reducible refine Below.setCell ?_ ?hsz _); (case hsz => (first | omega | (simp; done) | (simp; omega) | (simp at *; omega)))) | (with_reducible refine Below.drew ?_) | (with_reducible refine below_drewN ?_ _) | ((with_reducible refine Below.trans ?_ (Below.mono (by with_reducible assumption) ?hsz)); (case hsz => (first | omega | (simp; done) | (simp; omega) | (simp at *; omega)))))))
        have hz2' := hb2.size
        simp at hz2'
        have hbw2 : Below W0.heap.size W0 w2 := by (repeat (first | (with_reducible assumption) | (with_reducible exact Below.refl _ _) | ((with_reducible refine Below.alloc ?_ ?hsz _); (case hsz => (first | omega | (simp; done) | (simp; omega) | (simp at *; omega)))) | ((with_reducible refine Below.setCell ?_ ?hsz _); (case hsz => (first | omega | (simp; done) | (simp; omega) | (simp at *; omega)))) | (with_reducible refine Below.drew ?_) | (with_reducible refine below_drewN ?_ _) | ((with_reducible refine Below.trans ?_ (Below.mono (by with_reducible assumption) ?hsz)); (case hsz => (first | omega | (simp; done) | (simp; omega) | (simp at *; omega))))))
        obtain ⟨cs, v1, v2, hown2, v4⟩ := hstk2
        have HV := Lib.hid (And.intro v1 (And.intro v2 v4))
        have HR := Lib.hid (netOk2.mono hr (show W0.heap.size ≤ _ by simp; omega))
        have hlit := heap_alloc_new w2 (.cells #[.int .i64 2, .slice A9 n9 c9] 33)
        clear hstk hcr hfr hb hb2 v1 v2 v4 hr
        go_wp2_with (first
          | (at_builtin
             go_must (refine wpList_append_src rfl _ _ 88 rfl W0.heap.size 33 i0 _ 2 32 Try.underlying88 hi0 hz0 hz1 hz2 rfl (by omega) _ _ n 1 (cs.flatMap pairC) [.int .i64 2, .slice A9 n9 c9] rfl rfl (own_keep hown2 (Nat.le_refl _) (by (repeat (first | (with_reducible assumption) | (with_reducible exact Below.refl _ _) | ((with_reducible refine Below.alloc ?_ ?hsz _); (case hsz => (first | omega | (simp; done) | (simp; omega) | (simp at *; omega)))) | ((with_reducible refine Below.setCell ?_ ?hsz _); (case hsz => (first | omega | (simp; done) | (simp; omega) | (simp at *; omega)))) | (with_reducible refine Below.drew ?_) | (with_reducible refine below_drewN ?_ _) | ((with_reducible refine Below.trans ?_ (Below.mono (by with_reducible assumption) ?hsz)); (case hsz => (first | omega | (simp; done) | (simp; omega) | (simp at *; omega)))))))) (lit_src hlit rfl (by simp [Value.oneCell'])) (by unfold maxLen; omega) (by omega) (by simp; omega) ?_)
             intro rn w7 hown7 hgr7 hat7))
        have hb7 : Below W0.heap.size W0 w7 := Below.grown (w := w2.alloc (.cells #[.int .i64 2, .slice A9 n9 c9] 33)) (by (repeat (first | (with_reducible assumption) | (with_reducible exact Below.refl _ _) | ((with_reducible refine Below.alloc ?_ ?hsz _); (case hsz => (first | omega | (simp; done) | (simp; omega) | (simp at *; omega)))) | ((with_reducible refine Below.setCell ?_ ?hsz _); (case hsz => (first | omega | (simp; done) | (simp; omega) | (simp at *; omega)))) | (with_reducible refine Below.drew ?_) | (with_reducible refine below_drewN ?_ _) | ((with_reducible refine Below.trans ?_ (Below.mono (by with_reducible assumption) ?hsz)); (case hsz => (first | omega | (simp; done) | (simp; omega) | (simp at *; omega))))))) hgr7 (by (first | omega | (simp; done) | (simp; omega) | (simp at *; omega))) (fun q hq => (hown2.lt q hq).1)
        have hb22 : Below w2.heap.size w2 (w2.alloc (.cells #[.int .i64 2, .slice A9 n9 c9] 33)) := by (repeat (first | (with_reducible assumption) | (with_reducible exact Below.refl _ _) | ((with_reducible refine Below.alloc ?_ ?hsz _); (case hsz => (first | omega | (simp; done) | (simp; omega) | (simp at *; omega)))) | ((with_reducible refine Below.setCell ?_ ?hsz _); (case hsz => (first | omega | (simp; done) | (simp; omega) | (simp at *; omega)))) | (with_reducible refine Below.drew ?_) | (with_reducible refine below_drewN ?_ _) | ((with_reducible refine Below.trans ?_ (Below.mono (by with_reducible assumption) ?hsz)); (case hsz => (first | omega | (simp; done) | (simp; omega) | (simp at *; omega))))))
        have hSn : StkP 33 NetR w7 W0.heap.size rn (n + 1) ((stackT T k).reverse ++ [.pipe h p]) :=
          StkP.snoc netOk2 HV.out.1 HV.out.2.1 (own_keep hown2 (Nat.le_refl _) hb22) (fun k hk hk' => netOk2.keep (HV.out.2.2 k hk hk') hb22) (netOk2.keep HR.out hb22) hgr7 hown7
        obtain ⟨An, cn, rfl, -, -, -⟩ := own_form hown7
        have HO := Lib.hid hSn
        clear hown7 hgr7 hat7 hSn hb22 hlit
        go_roundw
        case rel => exact ⟨k + 1, n + 1, cn, An, by omega, by go_num, rfl, by rw [HS.out]; simp; exact HM.out, by rw [HS.out]; simpa using HO.out, hb7⟩
        case measure => simp [intOf]; omega
      · rw [hm] at d0 d1 d2
        have hgA := hga a (by rw [hst]; simp)
        have hgB := hga b (by rw [hst]; simp)
        have ha7 := a.pipes_marks (hgm a (by rw [hst]; simp)) (by omega)
        have hb7' := b.pipes_marks (hgm b (by rw [hst]; simp)) (by omega)
        obtain ⟨M, hM⟩ : ∃ M, r.length = M := ⟨_, rfl⟩
        have hnM : n = M + 2 := by rw [← hn, hst]; simp; omega
        subst hnM
        rw [hst] at hstk
        have hstk0 := hstk
        obtain ⟨cs, v1, v2, hown, v4⟩ := hstk
        have hvl : cs.length = M + 2 := by omega
        obtain ⟨gs, rfl, hgs1, hgs2, hcn, hcm, hc9⟩ := own_at hown (by rw [pair_len]; omega)
        unfold maxLen at hcm
        have p0 := pair_at cs M (by omega)
        have p1 := pair_at cs (M + 1) (by omega)
        obtain ⟨f0, f1⟩ := hc9 _ _ p0.1
        obtain ⟨f2, f3⟩ := hc9 _ _ p0.2
        obtain ⟨f4, -⟩ := hc9 _ _ p1.1
        obtain ⟨f5, -⟩ := hc9 _ _ p1.2
        have hIa := v4 M (by omega) (by omega)
        have hIb := v4 (M + 1) (by omega) (by omega)
        have ea : ((b :: a :: r).reverse)[M]'(by simp; omega) = a := by subst hM; simp
        have eb : ((b :: a :: r).reverse)[M + 1]'(by simp; omega) = b := by subst hM; simp
        rw [ea] at hIa
        rw [eb] at hIb
        clear p0 p1
        generalize cs[M].1 = xa at *
        generalize cs[M].2 = ya at *
        generalize cs[M + 1].1 = xb at *
        generalize cs[M + 1].2 = yb at *
        obtain ⟨rfl, hPa⟩ := hIa
        obtain ⟨rfl, hPb⟩ := hIb
        obtain ⟨Aa, ca, rfl, -, -, -, -⟩ := hPa.form
        obtain ⟨Ab, cb, rfl, -, -, -, -⟩ := hPb.form
        obtain ⟨la, hla⟩ : ∃ l, (placeT a 0 1 2).length = l := ⟨_, rfl⟩
        obtain ⟨lb, hlb⟩ : ∃ l, (placeT b 0 1 2).length = l := ⟨_, rfl⟩
        rw [hla] at hPa f2
        rw [hlb] at hPb f5
        have hIa : NetR wr W0.heap.size (.int .i64 ((a.thens : Int) + 2)) (.slice Aa la ca) a := ⟨rfl, hPa⟩
        have hIb : NetR wr W0.heap.size (.int .i64 ((b.thens : Int) + 2)) (.slice Ab lb cb) b := ⟨rfl, hPb⟩
        have HBD := Lib.hid (And.intro (net_bds a hgA ha7) (net_bds b hgB hb7'))
        clear hPa hPb hla hlb
        have HS := Lib.hid hs
        have HM := Lib.hid hM
        have hk0 : (kindI s == 0) = false := by cases s <;> rfl
        clear hm hst hs hn hc9 hM v1 v2 v4 hvl ea eb hown
        obtain ⟨W7, hW7⟩ : ∃ W, W = wr.alloc (.cells #[.int .i64 (kindI s), .int .i64 0, .int .i64 0] 27) := ⟨_, rfl⟩
        have hbr : Below wr.heap.size wr W7 := by rw [hW7]; (repeat (first | (with_reducible assumption) | (with_reducible exact Below.refl _ _) | ((with_reducible refine Below.alloc ?_ ?hsz _); (case hsz => (first | omega | (simp; done) | (simp; omega) | (simp at *; omega)))) | ((with_reducible refine Below.setCell ?_ ?hsz _); (case hsz => (first | omega | (simp; done) | (simp; omega) | (simp at *; omega)))) | (with_reducible refine Below.drew ?_) | (with_reducible refine below_drewN ?_ _) | ((with_reducible refine Below.trans ?_ (Below.mono (by with_reducible assumption) ?hsz)); (case hsz => (first | omega | (simp; done) | (simp; omega) | (simp at *; omega))))))
        have hmb : wr.heap.size < W7.heap.size := by rw [hW7]; simp
        have hm0 : W7.cell? ⟨wr.heap.size, 0, none⟩ = some (.int .i64 (kindI s)) := by rw [hW7]; go_simp
        have HST := Lib.hid (StkP.keep netOk2 hstk0 hbr)
        replace hIa := netOk2.keep hIa hbr
        replace hIb := netOk2.keep hIb hbr
        have hb7 : Below W0.heap.size W0 W7 := hb.trans (hbr.mono hb.size)
        have hgl : gs < W7.heap.size := by omega
        have ha0 := (hbr.cell (p := ⟨gs, M * 2, none⟩) hgs2).trans f0
        have hfz0 := (hbr.frozen (p := ⟨gs, M * 2, none⟩) hgs2).trans f1
        have ha1 := (hbr.cell (p := ⟨gs, M * 2 + 1, none⟩) hgs2).trans f2
        have hfz1 := (hbr.frozen (p := ⟨gs, M * 2 + 1, none⟩) hgs2).trans f3
        have hb0 := (hbr.cell (p := ⟨gs, (M + 1) * 2, none⟩) hgs2).trans f4
        have hb1 := (hbr.cell (p := ⟨gs, (M + 1) * 2 + 1, none⟩) hgs2).trans f5
        clear hbr hb f0 f1 f2 f3 f4 f5 hstk0
        go_wp2_with fail
        rw [← hW7]
        clear hW7 hcr hfr
        refine wp_region_flowL 18 none [(0, 29), (1, 30), (2, 31), (3, 32), (4, 33), (5, 34), (6, 35), (7, 36), (8, 37), (9, 38), (10, 39), (11, 40), (12, 41), (13, 42), (14, 43), (15, 44), (16, 45)] (fun j x _ wx => builtNetV W7 W7.heap.size gs M c1 wr.heap.size s (.agg #[.int .i64 ((a.thens : Int) + 2), .slice Aa la ca]) (.agg #[.int .i64 ((b.thens : Int) + 2), .slice Ab lb cb]) (Tm.two s a b) (.func (Fn.func 43) #[] #[]) j x wx) (fun i wx wy => if i = 17 then True else Below wx.heap.size wx wy) (fun f wx => 1 ≤ f → Below W7.heap.size W7 wx) (by kernel_rfl) (by kernel_rfl) rfl (fun _ => ⟨rfl, rfl, rfl, Nat.le_refl _, fun _ _ => rfl⟩) ?_ ?_ ?_ ?_
        · intro i k hi hk hal x u wa wb hR hV
          have hk' : k < 18 := hk
          have hi' : i < 18 := hi
          by_cases n17 : k = 17
          · subst n17
            exfalso
            rcases i with _ | _ | _ | _ | _ | _ | _ | _ | _ | _ | _ | _ | _ | _ | _ | _ | _ | _ | i
            all_goals (first | omega | (revert hal; decide))
          · by_cases i17 : i = 17
            · subst i17
              rcases k with _ | _ | _ | _ | _ | _ | _ | _ | _ | _ | _ | _ | _ | _ | _ | _ | _ | _ | k
              all_goals first | exact hV | (exfalso; revert hal; decide) | (exfalso; omega)
            · have hbb : Below wa.heap.size wa wb := by simpa [i17] using hR
              rcases k with _ | _ | _ | _ | _ | _ | _ | _ | _ | _ | _ | _ | _ | _ | _ | _ | _ | _ | k
              all_goals first
                | exact hV
                | (exfalso; omega)
                | (obtain ⟨a, s, h1, h2⟩ := hV; exact ⟨a, s, h1, netOk2.keep h2 hbb⟩)
        · exact fun _ _ _ _ _ _ _ h => h
        · simp (maxSteps := 4000000) only [eachOp, fillF, List.setIfInBounds_toArray, List.set_cons_succ, List.set_cons_zero]
          refine ⟨?_, ?_, ?_, ?_, ?_, ?_, ?_, ?_, ?_, ?_, ?_, ?_, ?_, ?_, ?_, ?_, ?_, ?_, trivial⟩ <;> intro u f wx hC hd hf <;> (try simp [allV, useOf, Region.binds] at hd)
          · have hf1 : 1 ≤ f := Nat.le_trans (by decide) hf.1
            have hB := hC (by omega)
            clear hf
            have hBz := hB.size
            go_wp2
            first | exact ⟨_, rfl, rfl, Below.refl _ _, fun _ => hB⟩ | exact ⟨_, rfl, rfl, Below.refl _ _, hB⟩
          · have hf1 : 1 ≤ f := Nat.le_trans (by decide) hf.1
            have hB := hC (by omega)
            clear hf
            have hBz := hB.size
            go_wp2
            first | exact ⟨_, rfl, rfl, Below.refl _ _, fun _ => hB⟩ | exact ⟨_, rfl, rfl, Below.refl _ _, hB⟩
          · rw [show u 1 = _ from (by first | exact hd | exact hd.1 | exact hd.2 | exact hd.2.1 | exact hd.2.2 | exact hd.2.2.1 | exact hd.2.2.2 | exact hd.2.2.2.1 | exact hd.2.2.2.2)]
            have hf1 : 1 ≤ f := Nat.le_trans (by decide) hf.1
            have hB := hC (by omega)
            clear hf
            have hBz := hB.size
            have hw : IntKind.i64.wrap ((M : Int) + 2 - 1 - 1) = (M : Int) := by rw [IntWalk.i64_in _ (by omega)]; omega
            go_wp2
            first | exact ⟨_, rfl, rfl, Below.refl _ _, fun _ => hB⟩ | exact ⟨_, rfl, rfl, Below.refl _ _, hB⟩
          · have hf1 : 1 ≤ f := Nat.le_trans (by decide) hf.1
            have hB := hC (by omega)
            clear hf
            have hBz := hB.size
            go_wp2
            first | exact ⟨_, rfl, rfl, Below.refl _ _, fun _ => hB⟩ | exact ⟨_, rfl, rfl, Below.refl _ _, hB⟩
          · have hf1 : 1 ≤ f := Nat.le_trans (by decide) hf.1
            have hB := hC (by omega)
            clear hf
            have hBz := hB.size
            go_wp2
            first | exact ⟨_, rfl, rfl, Below.refl _ _, fun _ => hB⟩ | exact ⟨_, rfl, rfl, Below.refl _ _, hB⟩
          · rw [show u 4 = _ from (by first | exact hd | exact hd.1 | exact hd.2 | exact hd.2.1 | exact hd.2.2 | exact hd.2.2.1 | exact hd.2.2.2 | exact hd.2.2.2.1 | exact hd.2.2.2.2)]
            have hf1 : 1 ≤ f := Nat.le_trans (by decide) hf.1
            have hB := hC (by omega)
            clear hf
            have hBz := hB.size
            have e0 := (hB.cell (p := ⟨wr.heap.size, 0, none⟩) hmb).trans hm0
            go_wp2
            first | exact ⟨_, rfl, rfl, Below.refl _ _, fun _ => hB⟩ | exact ⟨_, rfl, rfl, Below.refl _ _, hB⟩
          · have hf1 : 1 ≤ f := Nat.le_trans (by decide) hf.1
            have hB := hC (by omega)
            clear hf
            have hBz := hB.size
            go_wp2
            first | exact ⟨_, rfl, rfl, Below.refl _ _, fun _ => hB⟩ | exact ⟨_, rfl, rfl, Below.refl _ _, hB⟩
          · have hf1 : 1 ≤ f := Nat.le_trans (by decide) hf.1
            have hB := hC (by omega)
            clear hf
            have hBz := hB.size
            go_wp2
            first | exact ⟨_, rfl, rfl, Below.refl _ _, fun _ => hB⟩ | exact ⟨_, rfl, rfl, Below.refl _ _, hB⟩
          · rw [show u 7 = _ from (by first | exact hd | exact hd.1 | exact hd.2 | exact hd.2.1 | exact hd.2.2 | exact hd.2.2.1 | exact hd.2.2.2 | exact hd.2.2.2.1 | exact hd.2.2.2.2)]
            have hf1 : 1 ≤ f := Nat.le_trans (by decide) hf.1
            have hB := hC (by omega)
            clear hf
            have hBz := hB.size
            have hw : IntKind.i64.wrap ((M : Int) + 2 - 1 - 1) = (M : Int) := by rw [IntWalk.i64_in _ (by omega)]; omega
            go_wp2
            first | exact ⟨_, rfl, rfl, Below.refl _ _, fun _ => hB⟩ | exact ⟨_, rfl, rfl, Below.refl _ _, hB⟩
          · rw [show u 6 = _ from (by first | exact hd | exact hd.1 | exact hd.2 | exact hd.2.1 | exact hd.2.2 | exact hd.2.2.1 | exact hd.2.2.2 | exact hd.2.2.2.1 | exact hd.2.2.2.2), show u 8 = _ from (by first | exact hd | exact hd.1 | exact hd.2 | exact hd.2.1 | exact hd.2.2 | exact hd.2.2.1 | exact hd.2.2.2 | exact hd.2.2.2.1 | exact hd.2.2.2.2)]
            have hf1 : 1 ≤ f := Nat.le_trans (by decide) hf.1
            have hB := hC (by omega)
            clear hf
            have hBz := hB.size
            go_wp2
            first | exact ⟨_, rfl, rfl, Below.refl _ _, fun _ => hB⟩ | exact ⟨_, rfl, rfl, Below.refl _ _, hB⟩
          · rw [show u 9 = _ from (by first | exact hd | exact hd.1 | exact hd.2 | exact hd.2.1 | exact hd.2.2 | exact hd.2.2.1 | exact hd.2.2.2 | exact hd.2.2.2.1 | exact hd.2.2.2.2)]
            have hf1 : 1 ≤ f := Nat.le_trans (by decide) hf.1
            have hB := hC (by omega)
            clear hf
            have hBz := hB.size
            have e0 := (hB.cell (p := ⟨gs, M * 2, none⟩) hgl).trans ha0
            have e1 := (hB.cell (p := ⟨gs, M * 2 + 1, none⟩) hgl).trans ha1
            go_wp2
            first | exact ⟨_, rfl, rfl, Below.refl _ _, fun _ => hB⟩ | exact ⟨_, rfl, rfl, Below.refl _ _, hB⟩
          · have hf1 : 1 ≤ f := Nat.le_trans (by decide) hf.1
            have hB := hC (by omega)
            clear hf
            have hBz := hB.size
            go_wp2
            first | exact ⟨_, rfl, rfl, Below.refl _ _, fun _ => hB⟩ | exact ⟨_, rfl, rfl, Below.refl _ _, hB⟩
          · have hf1 : 1 ≤ f := Nat.le_trans (by decide) hf.1
            have hB := hC (by omega)
            clear hf
            have hBz := hB.size
            go_wp2
            first | exact ⟨_, rfl, rfl, Below.refl _ _, fun _ => hB⟩ | exact ⟨_, rfl, rfl, Below.refl _ _, hB⟩
          · rw [show u 11 = _ from (by first | exact hd | exact hd.1 | exact hd.2 | exact hd.2.1 | exact hd.2.2 | exact hd.2.2.1 | exact hd.2.2.2 | exact hd.2.2.2.1 | exact hd.2.2.2.2), show u 12 = _ from (by first | exact hd | exact hd.1 | exact hd.2 | exact hd.2.1 | exact hd.2.2 | exact hd.2.2.1 | exact hd.2.2.2 | exact hd.2.2.2.1 | exact hd.2.2.2.2)]
            have hf1 : 1 ≤ f := Nat.le_trans (by decide) hf.1
            have hB := hC (by omega)
            clear hf
            have hBz := hB.size
            go_wp2
            first | exact ⟨_, rfl, rfl, Below.refl _ _, fun _ => hB⟩ | exact ⟨_, rfl, rfl, Below.refl _ _, hB⟩
          · rw [show u 13 = _ from (by first | exact hd | exact hd.1 | exact hd.2 | exact hd.2.1 | exact hd.2.2 | exact hd.2.2.1 | exact hd.2.2.2 | exact hd.2.2.2.1 | exact hd.2.2.2.2)]
            have hf1 : 1 ≤ f := Nat.le_trans (by decide) hf.1
            have hB := hC (by omega)
            clear hf
            have hBz := hB.size
            have e0 := (hB.cell (p := ⟨gs, (M + 1) * 2, none⟩) hgl).trans hb0
            have e1 := (hB.cell (p := ⟨gs, (M + 1) * 2 + 1, none⟩) hgl).trans hb1
            go_wp2
            first | exact ⟨_, rfl, rfl, Below.refl _ _, fun _ => hB⟩ | exact ⟨_, rfl, rfl, Below.refl _ _, hB⟩
          · rw [show u 3 = _ from (by first | exact hd | exact hd.1 | exact hd.2 | exact hd.2.1 | exact hd.2.2 | exact hd.2.2.1 | exact hd.2.2.2 | exact hd.2.2.2.1 | exact hd.2.2.2.2), show u 5 = _ from (by first | exact hd | exact hd.1 | exact hd.2 | exact hd.2.1 | exact hd.2.2 | exact hd.2.2.1 | exact hd.2.2.2 | exact hd.2.2.2.1 | exact hd.2.2.2.2), show u 10 = _ from (by first | exact hd | exact hd.1 | exact hd.2 | exact hd.2.1 | exact hd.2.2 | exact hd.2.2.1 | exact hd.2.2.2 | exact hd.2.2.2.1 | exact hd.2.2.2.2), show u 14 = _ from (by first | exact hd | exact hd.1 | exact hd.2 | exact hd.2.1 | exact hd.2.2 | exact hd.2.2.1 | exact hd.2.2.2 | exact hd.2.2.2.1 | exact hd.2.2.2.2)]
            have hf1 : 1 ≤ f := Nat.le_trans (by decide) hf.1
            have hB := hC (by omega)
            clear hf
            have hBz := hB.size
            go_wp2_with fail
            refine (joinedNets_any s ((a.thens : Int) + 2) ((b.thens : Int) + 2) _ _ (placeT a 0 1 2) (placeT b 0 1 2) _ _ _ (hIa.2.keep hB) (hIb.2.keep hB) HBD.out.1.1 HBD.out.2.1 HBD.out.1.2.1 HBD.out.2.2.1 HBD.out.1.2.2 HBD.out.2.2.2).mono ?_
            rintro e wy ⟨r, rfl, hr, hby⟩
            have hrj : NetR wy W7.heap.size (.int .i64 (joinN s ((a.thens : Int) + 2) ((b.thens : Int) + 2))) r (Tm.two s a b) := ⟨by rw [join_n], by rw [← join_p]; exact hr.mono hBz⟩
            obtain ⟨Aj, cj, hvj, -, -, -, -⟩ := hr.form
            generalize List.length _ = lj at hvj
            subst hvj
            generalize joinN s _ _ = nj at *
            clear hr
            go_wp2
            first | exact ⟨_, rfl, ⟨_, _, rfl, hrj⟩, hby, fun _ => hB.trans (hby.mono hBz)⟩ | exact ⟨_, rfl, ⟨_, _, rfl, hrj⟩, hby, hB.trans (hby.mono hBz)⟩
          · rw [show u 0 = _ from (by first | exact hd | exact hd.1 | exact hd.2 | exact hd.2.1 | exact hd.2.2 | exact hd.2.2.1 | exact hd.2.2.2 | exact hd.2.2.2.1 | exact hd.2.2.2.2), show u 2 = _ from (by first | exact hd | exact hd.1 | exact hd.2 | exact hd.2.1 | exact hd.2.2 | exact hd.2.2.1 | exact hd.2.2.2 | exact hd.2.2.2.1 | exact hd.2.2.2.2)]
            have hf1 : 1 ≤ f := Nat.le_trans (by decide) hf.1
            have hB := hC (by omega)
            clear hf
            have hBz := hB.size
            go_wp2
            first | exact ⟨_, rfl, rfl, Below.refl _ _, fun _ => hB⟩ | exact ⟨_, rfl, rfl, Below.refl _ _, hB⟩
          · rw [show u 16 = _ from (by first | exact hd | exact hd.1 | exact hd.2 | exact hd.2.1 | exact hd.2.2 | exact hd.2.2.1 | exact hd.2.2.2 | exact hd.2.2.2.1 | exact hd.2.2.2.2)]
            have hf2 := hf.2
            have hB := hC (by omega)
            clear hf
            have hBz := hB.size
            have e0 := (hB.cell (p := ⟨gs, M * 2, none⟩) hgl).trans ha0
            have e1 := (hB.frozen (p := ⟨gs, M * 2, none⟩) hgl).trans hfz0
            have e2 := (hB.cell (p := ⟨gs, M * 2 + 1, none⟩) hgl).trans ha1
            have e3 := (hB.frozen (p := ⟨gs, M * 2 + 1, none⟩) hgl).trans hfz1
            have hgx : gs < wx.heap.size := by omega
            obtain ⟨a9, s9, h15, hr15⟩ : ∃ a9 s9, u 15 = .agg #[a9, s9] ∧ NetR wx W7.heap.size a9 s9 (Tm.two s a b) := (by first | exact hd.1 | exact hd.2)
            rw [h15]
            obtain ⟨ha9, hp9⟩ := id hr15
            obtain ⟨A9, c9, hs9, -, -, -, -⟩ := hp9.form
            generalize List.length _ = l9 at hs9
            generalize ((Tm.two s a b).thens : Int) + 2 = n9 at ha9
            subst ha9
            subst hs9
            clear hp9 h15 hd
            go_wp2
            exact ⟨undef, rfl, ⟨rfl, _, _, _, hB, hr15, rfl⟩, (if_pos rfl ▸ trivial : (if (17 : Nat) = 17 then True else _)), fun h => absurd h (by have := Nat.le_trans hf2 (by decide : _ ≤ 0); omega)⟩
        · intro u f wx hC hfin
          simp only [fillEnd, fillF, Act.put, List.setIfInBounds_toArray, List.set_cons_succ, List.set_cons_zero]
          obtain ⟨-, w9, a9, s9, hb9, hr9, hw9⟩ := hfin 17 (by decide) (by decide)
          subst hw9
          clear hfin hC
          have hz9 := hb9.size
          have hST := (HST.out.keep netOk2 hb9).top netOk2 (M := M) (netOk2.mono hr9 (by omega : W0.heap.size ≤ W7.heap.size))
          have hb10 : Below W0.heap.size W0 ((w9.setCell ⟨gs, M * 2, none⟩ a9).setCell ⟨gs, M * 2 + 1, none⟩ s9) := by
            have : Below W0.heap.size W0 w9 := hb7.trans (hb9.mono (by omega))
            exact (this.setCell (by omega) _).setCell (by omega) _
          have HF := Lib.hid (And.intro hST hb10)
          clear hST hb10 hb9 hr9
          go_wp2
          go_roundw
          case rel =>
            refine ⟨k + 1, M + 1, c1, some ⟨gs, 0, none⟩, by omega, by go_num, rfl, by rw [HS.out]; simp; exact HM.out, ?_, HF.out.2⟩
            rw [HS.out]
            have h := HF.out.1
            have e : ((b :: a :: r).reverse).take M ++ [Tm.two s a b] = ((Tm.two s a b) :: r).reverse := by
              have := HM.out
              subst this
              simp
            rw [e] at h
            exact h
          case measure => simp [intOf]; omega
    · have hk2 : k = L := by omega
      subst hk2
      have hE : stackT T k = [T] := by rw [← HL.out]; exact HE.out
      have hn1 : n = 1 := by rw [← hn, hE]; rfl
      subst hn1
      rw [hE] at hstk
      obtain ⟨cs, v1, v2, hown, v4⟩ := hstk
      have hvl : cs.length = 1 := by rw [v1]; rfl
      obtain ⟨gs, rfl, hgs1, hgs2, hcn, hcm, hc9⟩ := own_at hown (by rw [pair_len]; omega)
      have p0 := pair_at cs 0 (by omega)
      rw [Nat.zero_mul, Nat.zero_add] at p0
      obtain ⟨f0, -⟩ := hc9 _ _ p0.1
      obtain ⟨f1, -⟩ := hc9 _ _ p0.2
      have hI := v4 0 (by simp) (by omega)
      have ea : ([T].reverse)[0]'(by simp) = T := by simp
      rw [ea] at hI
      clear p0
      generalize cs[0].1 = xa at *
      generalize cs[0].2 = ya at *
      obtain ⟨rfl, hP1⟩ := id hI
      obtain ⟨Aa, ca, hva, -, -, -, -⟩ := hP1.form
      generalize List.length _ = la at hva
      subst hva
      clear hP1
      have HI := Lib.hid hI
      have hl0 : w.heap.size < W0.heap.size := by omega
      have e0 := (hb.cell (p := ⟨w.heap.size, 0, none⟩) hl0).trans q0
      have e1 := (hb.cell (p := ⟨w.heap.size, 1, none⟩) hl0).trans q1
      have j0 := (hb.frozen (p := ⟨w.heap.size, 0, none⟩) hl0).trans k0
      have j1 := (hb.frozen (p := ⟨w.heap.size, 1, none⟩) hl0).trans k1
      have hgw : w.heap.size < wr.heap.size := by omega
      have hbF : Below w.heap.size w wr := hb0.trans (hb.mono (by omega))
      clear hown hc9 hn hE v1 v2 v4 hvl ea hI
      go_wp2
      refine bodyPost_ret (v := .agg #[.int .i64 ((T.thens : Int) + 2), .slice Aa la ca]) (by simp [results, Try.results41, go_sem, e0, e1]) rfl ⟨_, _, rfl, ⟨HI.out.1, ((HI.out.2.setLow hl0).setLow hl0).mono (Nat.le_of_lt hl0)⟩, (hbF.setCell (p := ⟨w.heap.size, 0, none⟩) (Nat.le_refl _) _).setCell (p := ⟨w.heap.size, 1, none⟩) (Nat.le_refl _) _⟩

set_option maxHeartbeats 1000000 in
set_option maxRecDepth 20000 in
theorem netOfTerm_any (v : Value) (ts : List Mk) (b : Nat) (w : World) (h : Marks w b v ts) :
    Calls Try.prog 17 #[v] w fun e w' => ∃ s, e = .returned (.tuple #[.agg #[.int .i64 (termNetN ts), s], .bool (termB ts)]) ∧ Pipes w' w.heap.size s (termNetL ts) ∧ Below w.heap.size w w' := by
  obtain ⟨A, c, rfl, hc1, hc2, -, -⟩ := h.form
  unfold maxLen at hc2
  have hwz : (w.alloc (.cells #[.int .i64 0, .slice none 0 0] 33)).heap.size = w.heap.size + 1 := by simp
  cases ht : termB ts
  · have HR := Lib.hid (termNet_no ht)
    go_enter Try.func17, Try.ntmps17
    go_wp2_with fail
    refine (termOk_any _ ts b _ (h.keep (by (repeat (first | (with_reducible assumption) | (with_reducible exact Below.refl _ _) | ((with_reducible refine Below.alloc ?_ ?hsz _); (case hsz => (first | omega | (simp; done) | (simp; omega) | (simp at *; omega)))) | ((with_reducible refine Below.setCell ?_ ?hsz _); (case hsz => (first | omega | (simp; done) | (simp; omega) | (simp at *; omega)))) | (with_reducible refine Below.drew ?_) | (with_reducible refine below_drewN ?_ _) | ((with_reducible refine Below.trans ?_ (Below.mono (by with_reducible assumption) ?hsz)); (case hsz => (first | omega | (simp; done) | (simp; omega) | (simp at *; omega))))))))).mono ?_
    rintro e w1 ⟨rfl, hb1⟩
    rw [ht]
    have hB1 : Below w.heap.size w w1 := by (repeat (first | (with_reducible assumption) | (with_reducible exact Below.refl _ _) | ((with_reducible refine Below.alloc ?_ ?hsz _); (case hsz => (first | omega | (simp; done) | (simp; omega) | (simp at *; omega)))) | ((with_reducible refine Below.setCell ?_ ?hsz _); (case hsz => (first | omega | (simp; done) | (simp; omega) | (simp at *; omega)))) | (with_reducible refine Below.drew ?_) | (with_reducible refine below_drewN ?_ _) | ((with_reducible refine Below.trans ?_ (Below.mono (by with_reducible assumption) ?hsz)); (case hsz => (first | omega | (simp; done) | (simp; omega) | (simp at *; omega))))))
    have hz1 := hb1.size
    rw [hwz] at hz1
    have hl1 : w.heap.size < w1.heap.size := by omega
    have q0 := (hb1.cell (p := ⟨w.heap.size, 0, none⟩) (by rw [hwz]; exact Nat.lt_succ_self _)).trans (show (w.alloc (.cells #[.int .i64 0, .slice none 0 0] 33)).cell? ⟨w.heap.size, 0, none⟩ = some (.int .i64 0) by go_simp)
    have q1 := (hb1.cell (p := ⟨w.heap.size, 1, none⟩) (by rw [hwz]; exact Nat.lt_succ_self _)).trans (show (w.alloc (.cells #[.int .i64 0, .slice none 0 0] 33)).cell? ⟨w.heap.size, 1, none⟩ = some (.slice none 0 0) by go_simp)
    have k0 := (hb1.frozen (p := ⟨w.heap.size, 0, none⟩) (by rw [hwz]; exact Nat.lt_succ_self _)).trans (show (w.alloc (.cells #[.int .i64 0, .slice none 0 0] 33)).frozen? ⟨w.heap.size, 0, none⟩ = false by go_simp)
    have k1 := (hb1.frozen (p := ⟨w.heap.size, 1, none⟩) (by rw [hwz]; exact Nat.lt_succ_self _)).trans (show (w.alloc (.cells #[.int .i64 0, .slice none 0 0] 33)).frozen? ⟨w.heap.size, 1, none⟩ = false by go_simp)
    clear hb1
    go_wp2
    refine bodyPost_ret (v := .tuple #[.agg #[.int .i64 0, .slice none 0 0], .bool false]) (by simp [results, Try.results17, go_sem, q0, q1]) rfl ⟨_, by rw [HR.out.1], by rw [HR.out.2]; exact Pipes_nil _ _, (hB1.setCell (p := ⟨w.heap.size, 0, none⟩) (Nat.le_refl _) _).setCell (p := ⟨w.heap.size, 1, none⟩) (Nat.le_refl _) _⟩
  · obtain ⟨hT, hg, h7, h3⟩ := term_of ht
    have HR := Lib.hid (termNet_yes ht)
    have HT := Lib.hid (And.intro hT (And.intro hg (And.intro h7 h3)))
    clear hT hg h7 h3
    go_enter Try.func17, Try.ntmps17
    go_wp2_with fail
    refine (termOk_any _ ts b _ (h.keep (by (repeat (first | (with_reducible assumption) | (with_reducible exact Below.refl _ _) | ((with_reducible refine Below.alloc ?_ ?hsz _); (case hsz => (first | omega | (simp; done) | (simp; omega) | (simp at *; omega)))) | ((with_reducible refine Below.setCell ?_ ?hsz _); (case hsz => (first | omega | (simp; done) | (simp; omega) | (simp at *; omega)))) | (with_reducible refine Below.drew ?_) | (with_reducible refine below_drewN ?_ _) | ((with_reducible refine Below.trans ?_ (Below.mono (by with_reducible assumption) ?hsz)); (case hsz => (first | omega | (simp; done) | (simp; omega) | (simp at *; omega))))))))).mono ?_
    rintro e w1 ⟨rfl, hb1⟩
    rw [ht]
    have hz1 := hb1.size
    rw [hwz] at hz1
    have hA := h.arg.keep (w' := w1) (by (repeat (first | (with_reducible assumption) | (with_reducible exact Below.refl _ _) | ((with_reducible refine Below.alloc ?_ ?hsz _); (case hsz => (first | omega | (simp; done) | (simp; omega) | (simp at *; omega)))) | ((with_reducible refine Below.setCell ?_ ?hsz _); (case hsz => (first | omega | (simp; done) | (simp; omega) | (simp at *; omega)))) | (with_reducible refine Below.drew ?_) | (with_reducible refine below_drewN ?_ _) | ((with_reducible refine Below.trans ?_ (Below.mono (by with_reducible assumption) ?hsz)); (case hsz => (first | omega | (simp; done) | (simp; omega) | (simp at *; omega)))))))
    have hA2 : ArgMarks w1 (.slice A ts.length c) (tmOf ts).marks := by rw [← HT.out.1]; exact hA
    have hB1 : Below w.heap.size w w1 := by (repeat (first | (with_reducible assumption) | (with_reducible exact Below.refl _ _) | ((with_reducible refine Below.alloc ?_ ?hsz _); (case hsz => (first | omega | (simp; done) | (simp; omega) | (simp at *; omega)))) | ((with_reducible refine Below.setCell ?_ ?hsz _); (case hsz => (first | omega | (simp; done) | (simp; omega) | (simp at *; omega)))) | (with_reducible refine Below.drew ?_) | (with_reducible refine below_drewN ?_ _) | ((with_reducible refine Below.trans ?_ (Below.mono (by with_reducible assumption) ?hsz)); (case hsz => (first | omega | (simp; done) | (simp; omega) | (simp at *; omega))))))
    have HA := Lib.hid hA2
    clear hA hA2
    go_wp2_with fail
    refine (builtNet_any (tmOf ts) HT.out.2.1 HT.out.2.2.1 _ _ (HA.out.keep (by (repeat (first | (with_reducible assumption) | (with_reducible exact Below.refl _ _) | ((with_reducible refine Below.alloc ?_ ?hsz _); (case hsz => (first | omega | (simp; done) | (simp; omega) | (simp at *; omega)))) | ((with_reducible refine Below.setCell ?_ ?hsz _); (case hsz => (first | omega | (simp; done) | (simp; omega) | (simp at *; omega)))) | (with_reducible refine Below.drew ?_) | (with_reducible refine below_drewN ?_ _) | ((with_reducible refine Below.trans ?_ (Below.mono (by with_reducible assumption) ?hsz)); (case hsz => (first | omega | (simp; done) | (simp; omega) | (simp at *; omega))))))))).mono ?_
    rintro e w2 ⟨x9, r, rfl, ⟨rfl, hr⟩, hb2⟩
    have hB2 : Below w.heap.size w w2 := hB1.trans (hb2.mono (by omega))
    have hl1 : w.heap.size < w2.heap.size := by have := hb2.size; omega
    have q0 := (hb2.cell (p := ⟨w.heap.size, 0, none⟩) (show w.heap.size < _ by omega)).trans ((hb1.cell (p := ⟨w.heap.size, 0, none⟩) (by rw [hwz]; exact Nat.lt_succ_self _)).trans (show (w.alloc (.cells #[.int .i64 0, .slice none 0 0] 33)).cell? ⟨w.heap.size, 0, none⟩ = some (.int .i64 0) by go_simp))
    have q1 := (hb2.cell (p := ⟨w.heap.size, 1, none⟩) (show w.heap.size < _ by omega)).trans ((hb1.cell (p := ⟨w.heap.size, 1, none⟩) (by rw [hwz]; exact Nat.lt_succ_self _)).trans (show (w.alloc (.cells #[.int .i64 0, .slice none 0 0] 33)).cell? ⟨w.heap.size, 1, none⟩ = some (.slice none 0 0) by go_simp))
    have k0 := (hb2.frozen (p := ⟨w.heap.size, 0, none⟩) (show w.heap.size < _ by omega)).trans ((hb1.frozen (p := ⟨w.heap.size, 0, none⟩) (by rw [hwz]; exact Nat.lt_succ_self _)).trans (show (w.alloc (.cells #[.int .i64 0, .slice none 0 0] 33)).frozen? ⟨w.heap.size, 0, none⟩ = false by go_simp))
    have k1 := (hb2.frozen (p := ⟨w.heap.size, 1, none⟩) (show w.heap.size < _ by omega)).trans ((hb1.frozen (p := ⟨w.heap.size, 1, none⟩) (by rw [hwz]; exact Nat.lt_succ_self _)).trans (show (w.alloc (.cells #[.int .i64 0, .slice none 0 0] 33)).frozen? ⟨w.heap.size, 1, none⟩ = false by go_simp))
    obtain ⟨A9, c9, rfl, -, -, -, -⟩ := hr.form
    generalize hN9 : ((tmOf ts).thens : Int) + 2 = n9
    have HN9 := Lib.hid hN9
    obtain ⟨l9, hl9⟩ : ∃ l, (placeT (tmOf ts) 0 1 2).length = l := ⟨_, rfl⟩
    rw [hl9] at hr ⊢
    have HF := Lib.hid hr
    clear hb1 hb2 hr hN9 hl9
    go_wp2
    refine bodyPost_ret (v := .tuple #[.agg #[.int .i64 n9, .slice A9 l9 c9], .bool true]) (by simp [results, Try.results17, go_sem, q0, q1]) rfl ⟨_, by rw [HR.out.1, ← HN9.out]; all_goals (first | rfl | (rw [Int.add_comm]; done)), by rw [HR.out.2]; exact ((HF.out.setLow (by (first | omega | (simp; done) | (simp; omega) | (simp at *; omega)))).setLow (by (first | omega | (simp; done) | (simp; omega) | (simp at *; omega)))).mono (by omega), (hB2.setCell (p := ⟨w.heap.size, 0, none⟩) (Nat.le_refl _) _).setCell (p := ⟨w.heap.size, 1, none⟩) (Nat.le_refl _) _⟩

end Go.Proofs.Ytnefafpfeagflaa
