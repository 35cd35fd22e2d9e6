/- Plain facts. -/
import Derived.Test.YtobbeofibkpbaaaGZ7
import Derived.Test.YtobbeofibkpbaaaGZ55
import Derived.Test.YtobbeofibkpbaaaGZ23
import Derived.Test.YtobbeofibkpbaaaGZ39
import Derived.Test.YtobbeofibkpbaaaGZ46
import Derived.Test.YtobbeofibkpbaaaGZ8
/- Contracts of the functions of chapter 8 in the model: l8Starts, l8Costs, CarriesOf, CostsOf. -/
namespace Go.Proofs.Ytobbeofibkpbaaa
open Go.RowKit

theorem grow_of {a w : World} (hb : Below a.heap.size a w) (r : Option Nat) : a.grownBy w r := grow_below (grow_refl a r) hb

theorem ArgMarks.at' {w : World} {v : Value} {ts : List Mk} (h : ArgMarks w v ts) (hne : 0 < ts.length) :
    ∃ g o c, v = .slice (some ⟨g, o, none⟩) ts.length c ∧ ts.length ≤ c ∧ c ≤ maxLen ∧ g < w.heap.size ∧ ∀ k (hk : k < ts.length),
      w.cell? ⟨g, o + k * 3, none⟩ = some (.int .i64 ts[k].k) ∧ w.cell? ⟨g, o + k * 3 + 1, none⟩ = some (.int .i64 ts[k].h) ∧ w.cell? ⟨g, o + k * 3 + 2, none⟩ = some (.int .i64 ts[k].p) := by
  obtain ⟨A, c, rfl, h1, h2, hc⟩ := h
  obtain ⟨g, o, rfl, hg, -⟩ := hc 0 hne
  refine ⟨g, o, c, rfl, h1, h2, hg, fun k hk => ?_⟩
  obtain ⟨g', o', hA, -, c0⟩ := hc k hk
  injection hA with e
  injection e with e1 e2
  subst e1; subst e2
  exact c0
theorem ArgMarks.of {w : World} {g o n c : Nat} {ts : List Mk} (hn : n = ts.length) (h1 : n ≤ c) (h2 : c ≤ maxLen) (hg : g < w.heap.size) (hc : ∀ k (hk : k < ts.length),
      w.cell? ⟨g, o + k * 3, none⟩ = some (.int .i64 ts[k].k) ∧ w.cell? ⟨g, o + k * 3 + 1, none⟩ = some (.int .i64 ts[k].h) ∧ w.cell? ⟨g, o + k * 3 + 2, none⟩ = some (.int .i64 ts[k].p)) :
    ArgMarks w (.slice (some ⟨g, o, none⟩) n c) ts := by
  subst hn
  exact ⟨_, c, rfl, h1, h2, fun k hk => ⟨g, o, rfl, hg, hc k hk⟩⟩
/- the parts of a term's marks -/
theorem ArgMarks.parts {w : World} {g o c : Nat} {s : Bool} {a b : Tm} (h : ArgMarks w (.slice (some ⟨g, o, none⟩) (Tm.two s a b).marks.length c) (Tm.two s a b).marks) :
    ArgMarks w (.slice (some ⟨g, o, none⟩) a.marks.length c) a.marks ∧ ArgMarks w (.slice (some ⟨g, o + a.marks.length * 3, none⟩) b.marks.length (c - a.marks.length)) b.marks ∧
      w.cell? ⟨g, o + (a.marks.length + b.marks.length) * 3, none⟩ = some (.int .i64 (kindI s)) ∧ g < w.heap.size := by
  have hl : (Tm.two s a b).marks.length = a.marks.length + b.marks.length + 1 := by simp [Tm.marks]; omega
  obtain ⟨g', o', c', hv, h1, h2, hg, hc⟩ := h.at' (by omega)
  injection hv with e1 e2 e3
  injection e1 with e1
  injection e1 with e4 e5
  subst e4; subst e5; subst e3
  refine ⟨ArgMarks.of rfl (by omega) h2 hg fun k hk => ?_, ArgMarks.of rfl (by omega) (by unfold maxLen at *; omega) hg fun k hk => ?_, ?_, hg⟩
  · have := hc k (by omega)
    have e : (Tm.two s a b).marks[k]'(by omega) = a.marks[k] := by simp [Tm.marks, List.getElem_append_left hk]
    rw [e] at this
    exact this
  · have := hc (a.marks.length + k) (by omega)
    have e : (Tm.two s a b).marks[a.marks.length + k]'(by omega) = b.marks[k] := by simp [Tm.marks, List.getElem_append_left hk]
    rw [e] at this
    have e2 : o + a.marks.length * 3 + k * 3 = o + (a.marks.length + k) * 3 := by omega
    rw [e2]
    exact this
  · have := (hc (a.marks.length + b.marks.length) (by omega)).1
    have e : (Tm.two s a b).marks[a.marks.length + b.marks.length]'(by omega) = ⟨kindI s, 0, 0⟩ := by simp [Tm.marks]
    rw [e] at this
    exact this

set_option maxHeartbeats 2000000 in
set_option maxRecDepth 20000 in
theorem l8Starts_any (U : Tm) (hgd : U.good) (h7 : U.pipes ≤ 7) (g o c N Q : Nat) (e : Int) (w : World) (he1 : e ≤ Q + U.marks.length - 1) (he2 : Q + U.marks.length - 1 ≤ e) (hN : Q + U.marks.length ≤ N) (hg : g < w.heap.size) (hN6 : N ≤ 4194304)
    (hcell : ∀ k (hk : k < U.marks.length), w.cell? ⟨g, o + (Q + k) * 3, none⟩ = some (.int .i64 U.marks[k].k)) :
    Calls Try.prog 144 #[.slice (some ⟨g, o, none⟩) N c, .int .i64 e] w fun e w' => e = .returned (.int .i64 Q) ∧ Below w.heap.size w w' := by
  have h13 := U.len13 h7
  have HE := Lib.hid (stack_end U hgd)
  have HN := Lib.hid (fun k hk => stack_next U hgd k hk)
  have HA := Lib.hid (fun k hk => stack_all U hgd k hk)
  have hpos : 0 < U.marks.length := by have := U.marks_len; have := U.pipes_pos; omega
  obtain ⟨L, hL⟩ : ∃ L, U.marks.length = L := ⟨_, rfl⟩
  rw [hL] at he1 he2 hN hpos h13
  have HL := Lib.hid hL
  clear hL
  go_enter Try.func144, Try.ntmps144
  go_wp2
  go_loopw [6, 5] (fun a q wr => ∃ (k m : Nat) (z : Int), k ≤ L ∧ a = .int .i64 z ∧ q = .int .i64 m ∧ z ≤ (Q : Int) + k - 1 ∧ (Q : Int) + k - 1 ≤ z ∧ (stackT U k).length = m ∧ Below w.heap.size w wr) (fun a _ _ => (intOf a + 1).toNat)
  case atStart => exact ⟨L, 1, e, by omega, rfl, rfl, by omega, by omega, by rw [← HL.out, HE.out]; rfl, by (repeat (first | (with_reducible assumption) | (with_reducible exact Below.refl _ _) | ((with_reducible refine Below.alloc ?_ ?hsz _); (case hsz => (first | omega | (simp; done) | (simp; omega) | (simp at *; omega)))) | ((with_reducible refine Below.setCell ?_ ?hsz _); (case hsz => (first | omega | (simp; done) | (simp; omega) | (simp at *; omega)))) | (with_reducible refine Below.drew ?_) | (with_reducible refine below_drewN ?_ _) | ((with_reducible refine Below.trans ?_ (Below.mono (by with_reducible assumption) ?hsz)); (case hsz => (first | omega | (simp; done) | (simp; omega) | (simp at *; omega))))))⟩
  case round =>
    obtain ⟨k, m, z, hk, rfl, rfl, hz1, hz2, hm, hb⟩ := hrel
    obtain ⟨hcr, hfr, hzr⟩ := bcell hb
    cases k with
    | zero =>
      have hm0 : m = 0 := by rw [← hm, stack_zero]; rfl
      subst hm0
      clear hm
      have hzQ : z = (Q : Int) - 1 := by omega
      clear hz1 hz2
      have hw : IntKind.i64.wrap (z + 1) = (Q : Int) := by rw [IntWalk.i64_in _ (by omega)]; omega
      have hw2 : RowKit.wrap64 (z + 1) = (Q : Int) := by rw [IntWalk.wrap64_in _ (by omega)]; omega
      have HZ := Lib.hid hzQ
      clear hzQ
      go_wp2
      go_ret
      exact ⟨by first | rfl | exact ret_int (by first | exact hw | exact hw2 | (have := HZ.out; omega)), by (repeat (first | (with_reducible assumption) | (with_reducible exact Below.refl _ _) | ((with_reducible refine Below.alloc ?_ ?hsz _); (case hsz => (first | omega | (simp; done) | (simp; omega) | (simp at *; omega)))) | ((with_reducible refine Below.setCell ?_ ?hsz _); (case hsz => (first | omega | (simp; done) | (simp; omega) | (simp at *; omega)))) | (with_reducible refine Below.drew ?_) | (with_reducible refine below_drewN ?_ _) | ((with_reducible refine Below.trans ?_ (Below.mono (by with_reducible assumption) ?hsz)); (case hsz => (first | omega | (simp; done) | (simp; omega) | (simp at *; omega))))))⟩
    | succ k =>
      have hkL : k < U.marks.length := by have := HL.out; omega
      have hck := hcell k hkL
      obtain ⟨J, hJ⟩ : ∃ J : Nat, J = Q + k := ⟨_, rfl⟩
      have hzJ : z = (J : Int) := by omega
      subst hzJ
      rw [← hJ] at hck
      have hJ1 : J ≤ Q + k := by omega
      have hJ2 : Q + k ≤ J := by omega
      clear hJ
      have d0 := hck
      have hgr : g < wr.heap.size := by omega
      clear hck
      have hml := (HA.out (k + 1) (by have := HL.out; omega)).2.2
      have hmk : m ≤ 14 := by omega
      rcases HN.out k hkL with ⟨h, p, hmm, -, -, hs⟩ | ⟨s, a, b, r, hmm, hst, hs⟩
      · rw [hmm] at d0
        dsimp only at d0
        obtain ⟨q, hq⟩ : ∃ q, (stackT U k).length = q := ⟨_, rfl⟩
        have hmq : m = q + 1 := by rw [← hm, hs]; simp [hq]
        subst hmq
        have HQ := Lib.hid hq
        clear hq hs hm hmm
        go_wp2
        go_roundw
        case rel => exact ⟨k, q, (J : Int) - 1, by omega, by go_num, by go_num, by omega, by omega, HQ.out, by (repeat (first | (with_reducible assumption) | (with_reducible exact Below.refl _ _) | ((with_reducible refine Below.alloc ?_ ?hsz _); (case hsz => (first | omega | (simp; done) | (simp; omega) | (simp at *; omega)))) | ((with_reducible refine Below.setCell ?_ ?hsz _); (case hsz => (first | omega | (simp; done) | (simp; omega) | (simp at *; omega)))) | (with_reducible refine Below.drew ?_) | (with_reducible refine below_drewN ?_ _) | ((with_reducible refine Below.trans ?_ (Below.mono (by with_reducible assumption) ?hsz)); (case hsz => (first | omega | (simp; done) | (simp; omega) | (simp at *; omega))))))⟩
        case measure => simp [intOf] <;> omega
      · rw [hmm] at d0
        dsimp only at d0
        have hmq : (stackT U k).length = m + 1 ∧ 0 < m := by rw [← hm, hs, hst]; simp
        have HQ := Lib.hid hmq.1
        have hm0 := hmq.2
        have hk0 : (kindI s == 0) = false := by cases s <;> rfl
        clear hs hst hm hmm hmq
        go_wp2
        go_roundw
        case rel => exact ⟨k, m + 1, (J : Int) - 1, by omega, by go_num, by go_num, by omega, by omega, HQ.out, by (repeat (first | (with_reducible assumption) | (with_reducible exact Below.refl _ _) | ((with_reducible refine Below.alloc ?_ ?hsz _); (case hsz => (first | omega | (simp; done) | (simp; omega) | (simp at *; omega)))) | ((with_reducible refine Below.setCell ?_ ?hsz _); (case hsz => (first | omega | (simp; done) | (simp; omega) | (simp at *; omega)))) | (with_reducible refine Below.drew ?_) | (with_reducible refine below_drewN ?_ _) | ((with_reducible refine Below.trans ?_ (Below.mono (by with_reducible assumption) ?hsz)); (case hsz => (first | omega | (simp; done) | (simp; omega) | (simp at *; omega))))))⟩
        case measure => simp [intOf] <;> omega

/-- what the operations yield -/
def auV (W : World) (B : Nat) (A1 : Option Addr) (n c1 : Nat) (xs : List Int) (y : Int) (ga gb la lb ca cb k : Nat) (xa xb : Int) : Nat → Value → World → Prop
  | 0, x, _ => x = .slice A1 k c1
  | 1, x, _ => x = .slice (some ⟨ga, 0, none⟩) la ca
  | 2, x, _ => x = .int .i64 (k : Int)
  | 3, x, _ => x = .pointer (some ⟨ga, k, none⟩)
  | 4, x, _ => x = .int .i64 xa
  | 5, x, _ => x = .slice (some ⟨gb, 0, none⟩) lb cb
  | 6, x, _ => x = .int .i64 (k : Int)
  | 7, x, _ => x = .pointer (some ⟨gb, k, none⟩)
  | 8, x, _ => x = .int .i64 xb
  | 9, x, _ => x = .int .i64 y
  | 10, x, w => ∃ gl : Nat, x = .slice (some ⟨gl, 0, none⟩) 1 1 ∧ W.heap.size ≤ gl ∧ w.heap[gl]? = some (.cells #[.int .i64 y] 3 (0, 0))
  | 11, x, w => ∃ (g2 k2 : Nat), x = .slice (some ⟨g2, 0, none⟩) (n + 1) k2 ∧ w.ownsRow B 3 1 (.slice (some ⟨g2, 0, none⟩) (n + 1) k2) (n + 1) ((xs ++ [y]).map (Value.int .i64)) ∧ W.grownBy w (Value.slice A1 n c1).ownBlock ∧ ((Value.slice A1 n c1).ownBlock = some g2 ∨ W.heap.size ≤ g2)
  | 12, x, w => ∃ (g2 k2 : Nat), x = .slice (some ⟨g2, 0, none⟩) (n + 1) k2 ∧ w.ownsRow B 3 1 (.slice (some ⟨g2, 0, none⟩) (n + 1) k2) (n + 1) ((xs ++ [y]).map (Value.int .i64)) ∧ W.grownBy w (Value.slice A1 n c1).ownBlock ∧ ((Value.slice A1 n c1).ownBlock = some g2 ∨ W.heap.size ≤ g2)
  | _, _, _ => True

set_option maxHeartbeats 8000000 in
set_option maxRecDepth 20000 in
theorem l8CostsPipe_any (h p : Int) (hgd : (0 ≤ h ∧ h ≤ 4) ∧ 0 ≤ p ∧ p ≤ 9) (v : Value) (w : World) (hv : ArgMarks w v [⟨0, h, p⟩]) :
    Calls Try.prog 98 #[v] w fun e w' => ∃ r, e = .returned r ∧ Ints w' w.heap.size r (pipeL h p) ∧ Below w.heap.size w w' := by
  obtain ⟨⟨h1, h2⟩, p1, p2⟩ := hgd
  obtain ⟨g, o, c, rfl, hc1, hc2, hg, hc⟩ := hv.at' (by simp)
  obtain ⟨d0, d1, d2⟩ := hc 0 (by simp)
  simp only [Nat.zero_mul, Nat.add_zero, List.getElem_cons_zero] at d0 d1 d2
  simp only [List.length_cons, List.length_nil, Nat.zero_add] at hc1 ⊢
  unfold maxLen at hc2
  clear hc
  obtain ⟨i0, hi0, hz0, hz1, hz2⟩ := info_parts int_info
  go_enter Try.func98, Try.ntmps98
  go_wp2
  go_loopw [5, 4] (fun a t wr => ∃ (k c1 : Nat) (A1 : Option Addr), (k : Int) ≤ h + 1 ∧ a = .int .i64 k ∧ t = .slice A1 k c1 ∧
      wr.ownsRow w.heap.size 3 1 (.slice A1 k c1) k (((pipeL h p).take k).map (Value.int .i64)) ∧ Below w.heap.size w wr) (fun a _ _ => (h + 1).toNat - (intOf a).toNat)
  case atStart => exact ⟨0, 0, some ⟨w.heap.size, 0, none⟩, by omega, rfl, rfl, World.ownsRow_lit (e := 3) (base := w.heap.size) (size := 1) w #[] 0 (Nat.le_refl _) (by simp [maxLen]) rfl, by (repeat (first | (with_reducible assumption) | (with_reducible exact Below.refl _ _) | ((with_reducible refine Below.alloc ?_ ?hsz _); (case hsz => (first | omega | (simp; done) | (simp; omega) | (simp at *; omega)))) | ((with_reducible refine Below.setCell ?_ ?hsz _); (case hsz => (first | omega | (simp; done) | (simp; omega) | (simp at *; omega)))) | (with_reducible refine Below.drew ?_) | (with_reducible refine below_drewN ?_ _) | ((with_reducible refine Below.trans ?_ (Below.mono (by with_reducible assumption) ?hsz)); (case hsz => (first | omega | (simp; done) | (simp; omega) | (simp at *; omega))))))⟩
  case round =>
    obtain ⟨k, c1, A1, hk, rfl, rfl, hown, hb⟩ := hrel
    obtain ⟨hcr, hfr, hzr⟩ := bcell hb
    have hgr : g < wr.heap.size := by omega
    by_cases hlt : (k : Int) ≤ h
    · have e1 : 0 ≤ (k : Int) * p := Int.mul_nonneg (by omega) (by omega)
      have e2 : (k : Int) * p ≤ 4 * 9 := Int.mul_le_mul (by omega) (by omega) (by omega) (by omega)
      have hw : IntKind.i64.wrap ((k : Int) * p) = (k : Int) * p := IntWalk.i64_in _ (by omega)
      have hw2 : RowKit.wrap64 ((k : Int) * p) = (k : Int) * p := IntWalk.wrap64_in _ (by omega)
      have HS := Lib.hid (show (pipeL h p).take (k + 1) = (pipeL h p).take k ++ [(k : Int) * p] from map_range_snoc _ _ _ (by omega))
      have hrow : ∀ q, (Value.slice A1 k c1).ownBlock = some q → w.heap.size ≤ q ∧ q < wr.heap.size := fun q hq => hown.lt q hq
      go_wp2_with (first
        | (at_builtin
           go_must (refine wpList_append_lies _ rfl _ _ 28 rfl w.heap.size 3 i0 _ 1 8 Try.underlying28 hi0 hz0 hz1 hz2 rfl (by omega) _ k _ rfl (hown.alloc _) ⟨wr.heap.size, 0, none⟩ 1 1 [.int .i64 ((k : Int) * p)] rfl rfl (World.news_of_block (cs := #[.int .i64 ((k : Int) * p)]) (t := 3) (fr := (0, 0)) (heap_alloc_new _ _)) (by simp [Value.oneCell']) (by omega) (by unfold maxLen; omega) (by omega) (by simp; omega) _ rfl ?_)
           intro g2 k2 w7 hown7 hgr7 hat7 hlt7))
      have hb7 : Below w.heap.size w w7 := by
        refine Below.grown (w := wr.alloc (.cells #[.int .i64 ((k : Int) * p)] 3)) (by (repeat (first | (with_reducible assumption) | (with_reducible exact Below.refl _ _) | ((with_reducible refine Below.alloc ?_ ?hsz _); (case hsz => (first | omega | (simp; done) | (simp; omega) | (simp at *; omega)))) | ((with_reducible refine Below.setCell ?_ ?hsz _); (case hsz => (first | omega | (simp; done) | (simp; omega) | (simp at *; omega)))) | (with_reducible refine Below.drew ?_) | (with_reducible refine below_drewN ?_ _) | ((with_reducible refine Below.trans ?_ (Below.mono (by with_reducible assumption) ?hsz)); (case hsz => (first | omega | (simp; done) | (simp; omega) | (simp at *; omega))))))) hgr7 (by (first | omega | (simp; done) | (simp; omega) | (simp at *; omega))) (fun q hq => (hrow q hq).1)
      have HO := Lib.hid hown7
      clear hown7 hgr7 hat7 hlt7 hrow
      go_roundw
      case rel => exact ⟨k + 1, k2, some ⟨g2, 0, none⟩, by omega, by go_num, rfl, by rw [HS.out]; simpa using HO.out, hb7⟩
      case measure => simp [intOf] <;> omega
    · have hk2 : (pipeL h p).take k = pipeL h p := List.take_of_length_le (by simp [pipeL]; omega)
      rw [hk2] at hown
      have hk3 : (pipeL h p).length = k := by simp [pipeL]; omega
      have HO := Lib.hid (And.intro hown hk3)
      clear hk2 hk3 hown
      go_wp2
      go_ret
      exact ⟨_, rfl, ⟨by rw [HO.out.2]; exact HO.out.1, by rw [HO.out.2]; unfold small; omega⟩, by (repeat (first | (with_reducible assumption) | (with_reducible exact Below.refl _ _) | ((with_reducible refine Below.alloc ?_ ?hsz _); (case hsz => (first | omega | (simp; done) | (simp; omega) | (simp at *; omega)))) | ((with_reducible refine Below.setCell ?_ ?hsz _); (case hsz => (first | omega | (simp; done) | (simp; omega) | (simp at *; omega)))) | (with_reducible refine Below.drew ?_) | (with_reducible refine below_drewN ?_ _) | ((with_reducible refine Below.trans ?_ (Below.mono (by with_reducible assumption) ?hsz)); (case hsz => (first | omega | (simp; done) | (simp; omega) | (simp at *; omega))))))⟩

theorem own_at' {w : World} {b n c : Nat} {A : Option Addr} {xs : List Int} (h : Ints w b (.slice A n c) xs) (hn : 0 < xs.length) :
    ∃ g, A = some ⟨g, 0, none⟩ ∧ b ≤ g ∧ g < w.heap.size ∧ xs.length ≤ c ∧ c ≤ maxLen ∧ ∀ wr, Below w.heap.size w wr → ∀ k, k < xs.length → wr.cell? ⟨g, k, none⟩ = some (.int .i64 (xs.getD k 0)) := by
  obtain ⟨A', c', hv, h1, h2, -, h3⟩ := h.form
  injection hv with e1 e2 e3
  subst e1
  subst e3
  obtain ⟨g, hA, hg, hg2, -, -⟩ := h3 w (Below.refl _ _) 0 hn
  subst hA
  refine ⟨g, rfl, hg, hg2, h1, h2, fun wr hb k hk => ?_⟩
  obtain ⟨g', hA', -, -, c0, -⟩ := h3 wr hb k hk
  injection hA' with e4
  injection e4 with e4
  subst e4
  rw [c0]
  simp [List.getD_eq_getElem?_getD, hk]

set_option maxHeartbeats 8000000 in
set_option maxRecDepth 20000 in
theorem l8Costs_any (T : Tm) (hgd : T.good) (h7 : T.pipes ≤ 7) : ∀ (v : Value) (w : World), ArgMarks w v T.marks →
    Calls Try.prog 98 #[v] w fun e w' => ∃ r, e = .returned r ∧ Ints w' w.heap.size r T.costs ∧ Below w.heap.size w w' := by
  induction T with
  | pipe h p => exact fun v w hv => l8CostsPipe_any h p hgd v w hv
  | two s a b iha ihb =>
    intro v w hv
    have pa := a.pipes_pos
    have pb := b.pipes_pos
    have iha := iha hgd.1 (by simp only [Tm.pipes] at h7; omega)
    have ihb := ihb hgd.2 (by simp only [Tm.pipes] at h7; omega)
    have h7b : b.pipes ≤ 7 := by simp only [Tm.pipes] at h7; omega
    have h7a : a.pipes ≤ 7 := by simp only [Tm.pipes] at h7; omega
    have la := a.len13 h7a
    have lb := b.len13 h7b
    have la0 : 0 < a.marks.length := by have := a.marks_len; omega
    have lb0 : 0 < b.marks.length := by have := b.marks_len; omega
    have hl : (Tm.two s a b).marks.length = a.marks.length + b.marks.length + 1 := by simp [Tm.marks]; omega
    obtain ⟨g, o, c, rfl, hc1, hc2, hg, hc⟩ := hv.at' (by omega)
    obtain ⟨hva, hvb, d0, -⟩ := hv.parts
    have hst : ∀ k (hk : k < b.marks.length), w.cell? ⟨g, o + (a.marks.length + k) * 3, none⟩ = some (.int .i64 b.marks[k].k) := fun k hk => by
      have := (hc (a.marks.length + k) (by omega)).1
      have e : (Tm.two s a b).marks[a.marks.length + k]'(by omega) = b.marks[k] := by simp [Tm.marks, List.getElem_append_left hk]
      rw [e] at this
      exact this
    rw [hl] at hc1 ⊢
    unfold maxLen at hc2
    obtain ⟨i0, hi0, hz0, hz1, hz2⟩ := info_parts int_info
    have HVA := Lib.hid hva
    have HVB := Lib.hid hvb
    have HST := Lib.hid hst
    obtain ⟨LA, hLA⟩ : ∃ LA, a.marks.length = LA := ⟨_, rfl⟩
    obtain ⟨M, hM⟩ : ∃ M, a.marks.length + b.marks.length = M := ⟨_, rfl⟩
    rw [hM] at hc1 d0 ⊢
    have HM := Lib.hid (And.intro hLA hM)
    have hM1 : LA < M := by omega
    have hM2 : M ≤ 26 := by omega
    clear hva hvb hst hc hv hl hLA hM
    have hk0 : (kindI s == 0) = false := by cases s <;> rfl
    go_enter Try.func98, Try.ntmps98
    go_wp2_with fail
    refine (l8Starts_any b hgd.2 h7b g o c (M + 1) LA _ _ (by have := HM.out; omega) (by have := HM.out; omega) (by have := HM.out; omega) (by (first | omega | (simp; done) | (simp; omega) | (simp at *; omega))) (by omega) (fun k hk => by
      have := HM.out
      rw [← this.1]
      exact ((Below.alloc (Below.refl _ _) (Nat.le_refl _) _).cell (p := ⟨g, _, none⟩) hg).trans (HST.out k hk))).mono ?_
    rintro e w1 ⟨rfl, hb1⟩
    have hz1' := hb1.size
    simp at hz1'
    have hbw1 : Below w.heap.size w w1 := by (repeat (first | (with_reducible assumption) | (with_reducible exact Below.refl _ _) | ((with_reducible refine Below.alloc ?_ ?hsz _); (case hsz => (first | omega | (simp; done) | (simp; omega) | (simp at *; omega)))) | ((with_reducible refine Below.setCell ?_ ?hsz _); (case hsz => (first | omega | (simp; done) | (simp; omega) | (simp at *; omega)))) | (with_reducible refine Below.drew ?_) | (with_reducible refine below_drewN ?_ _) | ((with_reducible refine Below.trans ?_ (Below.mono (by with_reducible assumption) ?hsz)); (case hsz => (first | omega | (simp; done) | (simp; omega) | (simp at *; omega))))))
    have d01 := (hbw1.cell (p := ⟨g, o + M * 3, none⟩) hg).trans d0
    have hown1 : w1.ownsRow w.heap.size 3 1 (.slice (some ⟨w.heap.size, 0, none⟩) 0 0) 0 ([] : List Value) := by
      refine own_keep (World.ownsRow_lit (e := 3) (base := w.heap.size) (size := 1) w #[] 0 (Nat.le_refl _) (by simp [maxLen]) rfl) (Nat.le_refl _) ?_
      exact hb1
    clear hb1
    go_wp2_with fail
    refine (iha _ w1 (by have h := HVA.out.keep hbw1; rw [HM.out.1] at h; exact h)).mono ?_
    rintro e w2 ⟨ra, rfl, hra, hb2⟩
    have hbw2 : Below w.heap.size w w2 := hbw1.trans (hb2.mono hbw1.size)
    have hown2 := own_keep hown1 (Nat.le_refl _) hb2
    have hz2' := hb2.size
    clear hown1 hb2
    go_wp2_with fail
    refine (ihb _ w2 (by
      have h := HVB.out.keep hbw2
      have hm := HM.out
      rw [hm.1, show b.marks.length = M - LA by omega] at h
      exact h)).mono ?_
    rintro e w3 ⟨rb, rfl, hrb, hb3⟩
    have hbw3 : Below w.heap.size w w3 := hbw2.trans (hb3.mono hbw2.size)
    have hown3 := own_keep hown2 (Nat.le_refl _) hb3
    have hra3 := hra.keep hb3
    have hz3' := hb3.size
    have d03 := (hbw3.cell (p := ⟨g, o + M * 3, none⟩) hg).trans d0
    have hgr3 : g < w3.heap.size := by omega
    clear hown2 hb3 hra d01 hbw1 hbw2 d0
    have bda := a.costs_bd hgd.1
    have bdb := b.costs_bd hgd.2
    obtain ⟨Aa, ca, rfl, -, -, -, -⟩ := hra3.form
    obtain ⟨Ab, cb, rfl, -, -, -, -⟩ := hrb.form
    have posa := a.costs_pos hgd.1
    have posb := b.costs_pos hgd.2
    have sma := a.costs_small hgd.1
    have smb := b.costs_small hgd.2
    obtain ⟨ga, rfl, hga1, hga2, hca1, hca2, hcA⟩ := own_at' hra3 posa
    obtain ⟨gb, rfl, hgb1, hgb2, hcb1, hcb2, hcB⟩ := own_at' hrb posb
    unfold maxLen at hca2 hcb2
    have HCO := Lib.hid (show (Tm.two s a b).costs = if s then besideL a.costs b.costs else behindL a.costs b.costs from rfl)
    generalize hXA : a.costs = XA at *
    generalize hXB : b.costs = XB at *
    obtain ⟨LX, hLX⟩ : ∃ L, XA.length = L := ⟨_, rfl⟩
    obtain ⟨LY, hLY⟩ : ∃ L, XB.length = L := ⟨_, rfl⟩
    have HL := Lib.hid (And.intro hLX hLY)
    rw [hLX] at posa sma hca1 ⊢
    rw [hLY] at posb smb hcb1 ⊢
    have HCA := Lib.hid hcA
    have HCB := Lib.hid hcB
    have b36a : 36 * a.pipes ≤ 252 := by omega
    have b36b : 36 * b.pipes ≤ 252 := by omega
    clear hXA hXB hLX hLY hra3 hrb hcA hcB iha ihb
    have HBA := Lib.hid bda
    have HBB := Lib.hid bdb
    clear bda bdb
    cases s
    · have k1 : kindI false = 1 := rfl
      rw [k1] at d03
      rw [if_neg (by simp)] at HCO
      clear k1 hk0
      go_wp2
      go_loopw [9, 4] (fun q t wr => ∃ (k c1 : Nat) (A1 : Option Addr), k ≤ LX ∧ k ≤ LY ∧ q = .int .i64 k ∧ t = .slice A1 k c1 ∧
          wr.ownsRow w.heap.size 3 1 (.slice A1 k c1) k (((behindL XA XB).take k).map (Value.int .i64)) ∧ w3.grownBy wr (some w.heap.size) ∧ Below w.heap.size w wr ∧ (∀ q, (Value.slice A1 k c1).ownBlock = some q → q = w.heap.size ∨ w3.heap.size ≤ q)) (fun q _ _ => LX - (intOf q).toNat)
      case atStart => exact ⟨0, 0, _, by omega, by omega, rfl, rfl, hown3, grow_refl _ _, hbw3, fun q hq => .inl (by injection hq with hq; exact hq.symm)⟩
      case round =>
        obtain ⟨k, c1, A1, hkX, hkY, rfl, rfl, hown, hgw, hbw, hblk⟩ := hrel
        have hBW : w.heap.size ≤ wr.heap.size := hbw.size
        have hzw := hgw.size
        by_cases hlt : k < LX ∧ k < LY
        · obtain ⟨hltX, hltY⟩ := hlt
          have hga : ga < wr.heap.size := by omega
          have hgb : gb < wr.heap.size := by omega
          have ea := (hgw.cell_far ⟨ga, k, none⟩ hga2 (by intro e; injection e with e; dsimp only at e; omega)).trans (HCA.out w3 (Below.refl _ _) k (by have := HL.out; omega))
          have eb := (hgw.cell_far ⟨gb, k, none⟩ hgb2 (by intro e; injection e with e; dsimp only at e; omega)).trans (HCB.out w3 (Below.refl _ _) k (by have := HL.out; omega))
          have ba := bdL_getD HBA.out (by omega) k
          have bb := bdL_getD HBB.out (by omega) k
          have HS := Lib.hid (show (behindL XA XB).take (k + 1) = (behindL XA XB).take k ++ [XA.getD k 0 + XB.getD k 0] from map_range_snoc _ _ _ (by have := HL.out; omega))
          have hxl : ((behindL XA XB).take k).length = k := by have := HL.out; simp [behindL]; omega
          generalize XA.getD k 0 = xa at *
          generalize XB.getD k 0 = xb at *
          have HXL := Lib.hid hxl
          clear hxl d03
          go_wp2_with fail
          refine wp_region_flowL 12 (some 4) [(0, 74), (1, 75), (2, 76), (3, 77), (4, 78), (5, 79), (6, 80), (7, 81), (8, 82), (9, 83), (10, 84), (11, 85)] (fun j x _ wx => auV wr (w.heap.size) A1 k c1 ((behindL XA XB).take k) ((xa + xb)) ga gb LX LY ca cb k xa xb j x wx) (fun i wx wy => if i = 11 then True else Below wx.heap.size wx wy) (fun f wx => 2 ≤ f → Below wr.heap.size wr wx) (by kernel_rfl) (by kernel_rfl) rfl (fun _ => ⟨rfl, rfl, rfl, Nat.le_refl _, fun _ _ => rfl⟩) ?_ ?_ ?_ ?_
          · intro i j hi hj hal x u wa wb hR hV
            have hj' : j < 13 := hj
            by_cases n19 : i = 11
            · subst n19
              rcases j with _ | _ | _ | _ | _ | _ | _ | _ | _ | _ | _ | _ | _ | j
              all_goals first | exact hV | (exfalso; revert hal; decide) | (exfalso; omega)
            · have hbb : Below wa.heap.size wa wb := by
                by_cases h : i = 11
                · exact absurd h n19
                · simpa [h] using hR
              rcases j with _ | _ | _ | _ | _ | _ | _ | _ | _ | _ | _ | _ | _ | j
              all_goals first
                | exact hV
                | (exfalso; omega)
                | (obtain ⟨gl, h1, h2, h3⟩ := hV; exact ⟨gl, h1, h2, heap_keep h3 hbb⟩)
                | (obtain ⟨g2, k2, h1, h2, h3, h4⟩ := hV; exact ⟨g2, k2, h1, own_keep h2 (Nat.le_refl _) hbb, grow_below h3 hbb, h4⟩)
          · exact fun _ _ _ _ _ _ _ h => h
          · simp (maxSteps := 4000000) only [eachOp, fillF, List.setIfInBounds_toArray, List.set_cons_succ, List.set_cons_zero]
            refine ⟨?_, ?_, ?_, ?_, ?_, ?_, ?_, ?_, ?_, ?_, ?_, ?_, ?_, trivial⟩ <;> intro u f wx hC hd hf <;> (try simp [allV, useOf, Region.binds] at hd)
            · have hf1 : 2 ≤ f := Nat.le_trans (by decide) hf.1
              have hB := hC (by omega)
              clear hf
              have hBz := hB.size
              go_wp2
              first | exact ⟨_, rfl, rfl, Below.refl _ _, fun _ => hB⟩ | exact ⟨_, rfl, rfl, Below.refl _ _, hB⟩
            · have hf1 : 2 ≤ f := Nat.le_trans (by decide) hf.1
              have hB := hC (by omega)
              clear hf
              have hBz := hB.size
              go_wp2
              first | exact ⟨_, rfl, rfl, Below.refl _ _, fun _ => hB⟩ | exact ⟨_, rfl, rfl, Below.refl _ _, hB⟩
            · have hf1 : 2 ≤ f := Nat.le_trans (by decide) hf.1
              have hB := hC (by omega)
              clear hf
              have hBz := hB.size
              go_wp2
              first | exact ⟨_, rfl, rfl, Below.refl _ _, fun _ => hB⟩ | exact ⟨_, rfl, rfl, Below.refl _ _, hB⟩
            · rw [show u 1 = _ from (by first | exact hd | exact hd.1 | exact hd.2 | exact hd.2.1 | exact hd.2.2 | exact hd.2.2.1 | exact hd.2.2.2 | exact hd.2.2.2.1 | exact hd.2.2.2.2), show u 2 = _ from (by first | exact hd | exact hd.1 | exact hd.2 | exact hd.2.1 | exact hd.2.2 | exact hd.2.2.1 | exact hd.2.2.2 | exact hd.2.2.2.1 | exact hd.2.2.2.2)]
              have hf1 : 2 ≤ f := Nat.le_trans (by decide) hf.1
              have hB := hC (by omega)
              clear hf
              have hBz := hB.size
              go_wp2
              first | exact ⟨_, rfl, rfl, Below.refl _ _, fun _ => hB⟩ | exact ⟨_, rfl, rfl, Below.refl _ _, hB⟩
            · rw [show u 3 = _ from (by first | exact hd | exact hd.1 | exact hd.2 | exact hd.2.1 | exact hd.2.2 | exact hd.2.2.1 | exact hd.2.2.2 | exact hd.2.2.2.1 | exact hd.2.2.2.2)]
              have hf1 : 2 ≤ f := Nat.le_trans (by decide) hf.1
              have hB := hC (by omega)
              clear hf
              have hBz := hB.size
              have e0 := (hB.cell (p := ⟨ga, k, none⟩) hga).trans ea
              go_wp2
              first | exact ⟨_, rfl, rfl, Below.refl _ _, fun _ => hB⟩ | exact ⟨_, rfl, rfl, Below.refl _ _, hB⟩
            · have hf1 : 2 ≤ f := Nat.le_trans (by decide) hf.1
              have hB := hC (by omega)
              clear hf
              have hBz := hB.size
              go_wp2
              first | exact ⟨_, rfl, rfl, Below.refl _ _, fun _ => hB⟩ | exact ⟨_, rfl, rfl, Below.refl _ _, hB⟩
            · have hf1 : 2 ≤ f := Nat.le_trans (by decide) hf.1
              have hB := hC (by omega)
              clear hf
              have hBz := hB.size
              go_wp2
              first | exact ⟨_, rfl, rfl, Below.refl _ _, fun _ => hB⟩ | exact ⟨_, rfl, rfl, Below.refl _ _, hB⟩
            · rw [show u 5 = _ from (by first | exact hd | exact hd.1 | exact hd.2 | exact hd.2.1 | exact hd.2.2 | exact hd.2.2.1 | exact hd.2.2.2 | exact hd.2.2.2.1 | exact hd.2.2.2.2), show u 6 = _ from (by first | exact hd | exact hd.1 | exact hd.2 | exact hd.2.1 | exact hd.2.2 | exact hd.2.2.1 | exact hd.2.2.2 | exact hd.2.2.2.1 | exact hd.2.2.2.2)]
              have hf1 : 2 ≤ f := Nat.le_trans (by decide) hf.1
              have hB := hC (by omega)
              clear hf
              have hBz := hB.size
              go_wp2
              first | exact ⟨_, rfl, rfl, Below.refl _ _, fun _ => hB⟩ | exact ⟨_, rfl, rfl, Below.refl _ _, hB⟩
            · rw [show u 7 = _ from (by first | exact hd | exact hd.1 | exact hd.2 | exact hd.2.1 | exact hd.2.2 | exact hd.2.2.1 | exact hd.2.2.2 | exact hd.2.2.2.1 | exact hd.2.2.2.2)]
              have hf1 : 2 ≤ f := Nat.le_trans (by decide) hf.1
              have hB := hC (by omega)
              clear hf
              have hBz := hB.size
              have e0 := (hB.cell (p := ⟨gb, k, none⟩) hgb).trans eb
              go_wp2
              first | exact ⟨_, rfl, rfl, Below.refl _ _, fun _ => hB⟩ | exact ⟨_, rfl, rfl, Below.refl _ _, hB⟩
            · rw [show u 4 = _ from (by first | exact hd | exact hd.1 | exact hd.2 | exact hd.2.1 | exact hd.2.2 | exact hd.2.2.1 | exact hd.2.2.2 | exact hd.2.2.2.1 | exact hd.2.2.2.2), show u 8 = _ from (by first | exact hd | exact hd.1 | exact hd.2 | exact hd.2.1 | exact hd.2.2 | exact hd.2.2.1 | exact hd.2.2.2 | exact hd.2.2.2.1 | exact hd.2.2.2.2)]
              have hf1 : 2 ≤ f := Nat.le_trans (by decide) hf.1
              have hB := hC (by omega)
              clear hf
              have hBz := hB.size
              have hw : IntKind.i64.wrap (xa + xb) = xa + xb := IntWalk.i64_in _ (by omega)
              have hw2 : RowKit.wrap64 (xa + xb) = xa + xb := IntWalk.wrap64_in _ (by omega)
              go_wp2
              first | exact ⟨_, rfl, rfl, Below.refl _ _, fun _ => hB⟩ | exact ⟨_, rfl, rfl, Below.refl _ _, hB⟩
            · rw [show u 9 = _ from (by first | exact hd | exact hd.1 | exact hd.2 | exact hd.2.1 | exact hd.2.2 | exact hd.2.2.1 | exact hd.2.2.2 | exact hd.2.2.2.1 | exact hd.2.2.2.2)]
              have hB := hC (Nat.le_trans (Nat.le_trans (by decide : 2 ≤ 2) (Nat.succ_le_succ (Nat.le_trans (by decide : 1 ≤ _) hf.1))) (Nat.le_refl _))
              clear hf
              have hBz := hB.size
              go_wp2
              exact ⟨_, rfl, ⟨wx.heap.size, rfl, hBz, heap_alloc_new _ _⟩, (Below.refl _ _).alloc (Nat.le_refl _) _, fun _ => hB.alloc hBz _⟩
            · rw [show u 0 = _ from (by first | exact hd | exact hd.1 | exact hd.2 | exact hd.2.1 | exact hd.2.2 | exact hd.2.2.1 | exact hd.2.2.2 | exact hd.2.2.2.1 | exact hd.2.2.2.2)]
              have hf1 : 1 ≤ f := Nat.le_trans (by decide) hf.1
              have hf2 : f ≤ 1 := Nat.le_trans hf.2 (by decide)
              clear hf
              have hB := hC (by omega)
              have hBz := hB.size
              obtain ⟨gl, h18, hgl, hhl⟩ : ∃ gl : Nat, u 10 = .slice (some ⟨gl, 0, none⟩) 1 1 ∧ wr.heap.size ≤ gl ∧ wx.heap[gl]? = some (.cells #[.int .i64 (xa + xb)] 3 (0, 0)) := (by first | exact hd.1 | exact hd.2)
              rw [h18]
              have hownx := own_keep hown (Nat.le_refl _) hB
              have hlx := hown.lt
              refine wpList_append_lies _ rfl _ _ 28 rfl w.heap.size 3 i0 _ 1 8 Try.underlying28 hi0 hz0 hz1 hz2 rfl (by omega) _ k _ rfl hownx ⟨gl, 0, none⟩ 1 1 [.int .i64 (xa + xb)] rfl rfl (World.news_of_block hhl) (by simp [Value.oneCell']) (by omega) (by unfold maxLen; omega) (by omega) (by omega) _ rfl ?_
              intro g2 k2 w7 hown7 hgr7 hat7 hlt7
              have hb7 := grow_more (grow_of hB (Value.slice A1 k c1).ownBlock) hgr7 (fun q hq => .inr hq)
              have hat8 : (Value.slice A1 k c1).ownBlock = some g2 ∨ wr.heap.size ≤ g2 := hat7.imp id (fun h => by omega)
              refine wpList_nil ⟨_, rfl, ⟨g2, k2, rfl, by rw [List.map_append]; exact hown7, hb7, hat8⟩, trivial, fun h => absurd h (by omega)⟩
            · clear hf
              obtain ⟨g2, k2, h19, hR2⟩ : ∃ (g2 k2 : Nat), u 11 = .slice (some ⟨g2, 0, none⟩) (k + 1) k2 ∧ wx.ownsRow w.heap.size 3 1 (.slice (some ⟨g2, 0, none⟩) (k + 1) k2) (k + 1) ((((behindL XA XB).take k) ++ [(xa + xb)]).map (Value.int .i64)) ∧ wr.grownBy wx (Value.slice A1 k c1).ownBlock ∧ ((Value.slice A1 k c1).ownBlock = some g2 ∨ wr.heap.size ≤ g2) := hd
              rw [h19]
              go_wp2
              first | exact ⟨_, rfl, ⟨g2, k2, rfl, hR2⟩, Below.refl _ _, fun h => hC (by omega)⟩ | exact ⟨_, rfl, ⟨g2, k2, rfl, hR2⟩, Below.refl _ _, hC (by omega)⟩
          · intro u f wx hC hfin
            simp only [fillEnd, fillF, Act.put, List.setIfInBounds_toArray, List.set_cons_succ, List.set_cons_zero]
            obtain ⟨g2, k2, h20, hown9, hgr9, hat9⟩ : ∃ (g2 k2 : Nat), u 12 = .slice (some ⟨g2, 0, none⟩) (k + 1) k2 ∧ wx.ownsRow w.heap.size 3 1 (.slice (some ⟨g2, 0, none⟩) (k + 1) k2) (k + 1) ((((behindL XA XB).take k) ++ [(xa + xb)]).map (Value.int .i64)) ∧ wr.grownBy wx (Value.slice A1 k c1).ownBlock ∧ ((Value.slice A1 k c1).ownBlock = some g2 ∨ wr.heap.size ≤ g2) := hfin 12 (by decide) (by decide)
            rw [h20]
            clear hC hfin
            have hgn := grow_more hgw hgr9 (fun q hq => by
              rcases hblk q hq with h | h
              · exact .inr (by rw [h])
              · exact .inl h)
            have hbn : Below w.heap.size w wx := Below.grown hbw hgr9 hBW (fun q hq => (hown.lt q hq).1)
            have hbk : ∀ q, (Value.slice (some ⟨g2, 0, none⟩) (k + 1) k2).ownBlock = some q → q = w.heap.size ∨ w3.heap.size ≤ q := fun q hq => by
              have e : q = g2 := by injection hq with hq; exact hq.symm
              subst e
              rcases hat9 with h | h
              · exact hblk _ h
              · exact .inr (by omega)
            have HF := Lib.hid (And.intro hown9 (And.intro hgn (And.intro hbn hbk)))
            clear hown9 hgn hbn hbk hgr9 hat9
            go_wp2
            go_roundw
            case rel => exact ⟨k + 1, k2, some ⟨g2, 0, none⟩, by omega, by omega, by go_num, rfl, by rw [HS.out]; exact HF.out.1, HF.out.2⟩
            case measure => simp [intOf] <;> omega
        · have hk2 : (behindL XA XB).take k = behindL XA XB := List.take_of_length_le (by have := HL.out; simp [behindL]; omega)
          rw [hk2] at hown
          have hk3 : (behindL XA XB).length = k := by have := HL.out; simp [behindL]; omega
          have HO := Lib.hid (And.intro hown hk3)
          clear hk2 hk3 hown
          by_cases hkl : k < LX
          · have hkl2 : ¬ k < LY := by omega
            clear hlt
            go_wp2
            go_ret
            exact ⟨_, rfl, by rw [HCO.out]; exact ⟨by rw [HO.out.2]; exact HO.out.1, by rw [HO.out.2]; unfold small; omega⟩, by (repeat (first | (with_reducible assumption) | (with_reducible exact Below.refl _ _) | ((with_reducible refine Below.alloc ?_ ?hsz _); (case hsz => (first | omega | (simp; done) | (simp; omega) | (simp at *; omega)))) | ((with_reducible refine Below.setCell ?_ ?hsz _); (case hsz => (first | omega | (simp; done) | (simp; omega) | (simp at *; omega)))) | (with_reducible refine Below.drew ?_) | (with_reducible refine below_drewN ?_ _) | ((with_reducible refine Below.trans ?_ (Below.mono (by with_reducible assumption) ?hsz)); (case hsz => (first | omega | (simp; done) | (simp; omega) | (simp at *; omega))))))⟩
          · clear hlt
            go_wp2
            go_ret
            exact ⟨_, rfl, by rw [HCO.out]; exact ⟨by rw [HO.out.2]; exact HO.out.1, by rw [HO.out.2]; unfold small; omega⟩, by (repeat (first | (with_reducible assumption) | (with_reducible exact Below.refl _ _) | ((with_reducible refine Below.alloc ?_ ?hsz _); (case hsz => (first | omega | (simp; done) | (simp; omega) | (simp at *; omega)))) | ((with_reducible refine Below.setCell ?_ ?hsz _); (case hsz => (first | omega | (simp; done) | (simp; omega) | (simp at *; omega)))) | (with_reducible refine Below.drew ?_) | (with_reducible refine below_drewN ?_ _) | ((with_reducible refine Below.trans ?_ (Below.mono (by with_reducible assumption) ?hsz)); (case hsz => (first | omega | (simp; done) | (simp; omega) | (simp at *; omega))))))⟩
    · have k1 : kindI true = 2 := rfl
      rw [k1] at d03
      rw [if_pos rfl] at HCO
      clear k1 hk0
      go_wp2
      go_loopw [10, 4] (fun q t wr => ∃ (k c1 : Nat) (A1 : Option Addr), k + 1 ≤ LX + LY ∧ q = .int .i64 k ∧ t = .slice A1 k c1 ∧
          wr.ownsRow w.heap.size 3 1 (.slice A1 k c1) k (((besideL XA XB).take k).map (Value.int .i64)) ∧ w3.grownBy wr (some w.heap.size) ∧ Below w.heap.size w wr ∧ (∀ q, (Value.slice A1 k c1).ownBlock = some q → q = w.heap.size ∨ w3.heap.size ≤ q)) (fun q _ _ => LX + LY - (intOf q).toNat)
      case atStart => exact ⟨0, 0, _, by omega, rfl, rfl, hown3, grow_refl _ _, hbw3, fun q hq => .inl (by injection hq with hq; exact hq.symm)⟩
      case round =>
        obtain ⟨k, c1, A1, hkX, rfl, rfl, hown, hgw, hbw, hblk⟩ := hrel
        have hBW : w.heap.size ≤ wr.heap.size := hbw.size
        have hzw := hgw.size
        have hga : ga < wr.heap.size := by omega
        have hgb : gb < wr.heap.size := by omega
        by_cases hlt : k + 2 ≤ LX + LY
        · have HW := Lib.hid (And.intro (ways_ne (a := XA) (b := XB) (n := k) (by have := HL.out; omega) (by have := HL.out; omega) (by have := HL.out; omega)) (And.intro (ways_bd HBA.out HBB.out (by omega) (by omega) k) (And.intro (ways_len XA XB k) (fun j hj => ways_at (a := XA) (b := XB) (n := k) (j := j) hj))))
          have HS := Lib.hid (show (besideL XA XB).take (k + 1) = (besideL XA XB).take k ++ [lowL (waysL XA XB k)] from map_range_snoc _ _ _ (by have := HL.out; omega))
          have HC := Lib.hid (And.intro hgw (And.intro hown hblk))
          clear hgw hown hblk d03
          go_wp2
          generalize hWL : waysL XA XB k = W at *
          clear hWL
          go_loopw [12, 11] (fun q t w9 => ∃ i : Nat, i ≤ k + 1 ∧ i ≤ LX ∧ q = .int .i64 i ∧ t = .int .i64 (bestM W (i - (k + 1 - LY))) ∧ Below wr.heap.size wr w9) (fun q _ _ => LX - (intOf q).toNat)
          case atStart => exact ⟨0, by omega, by omega, rfl, by rw [Nat.zero_sub]; rfl, Below.refl _ _⟩
          case round =>
            obtain ⟨i, hi1, hi2, rfl, rfl, hb9⟩ := hrel
            have hz9 := hb9.size
            by_cases hin : i ≤ k ∧ i < LX
            · obtain ⟨hik, hiX⟩ := hin
              obtain ⟨J, hJ1, hJ2⟩ : ∃ J : Nat, J + i ≤ k ∧ k ≤ J + i := ⟨k - i, by omega, by omega⟩
              have hw1 : IntKind.i64.wrap ((k : Int) - (i : Int)) = (J : Int) := by rw [IntWalk.i64_in _ (by omega)]; omega
              have hw2 : RowKit.wrap64 ((k : Int) - (i : Int)) = (J : Int) := by rw [IntWalk.wrap64_in _ (by omega)]; omega
              by_cases hJY : J < LY
              · have hd1 : decide ((J : Int) < (LY : Int)) = true := decide_eq_true (by omega)
                obtain ⟨j, hj1, hj2⟩ : ∃ j : Nat, i - (k + 1 - LY) = j ∧ i + 1 - (k + 1 - LY) = j + 1 := ⟨i - (k + 1 - LY), rfl, by omega⟩
                rw [hj1]
                have hjW : j < W.length := by have h1 := HW.out.2.2.1; have h2 := HL.out; omega
                have hWj := HW.out.2.2.2 j hjW
                have e1 : k + 1 - XB.length + j = i := by have h2 := HL.out; omega
                have e2 : k - i = J := by omega
                rw [e1, e2] at hWj
                have hgc := HC.out.1
                have ea := (hb9.cell (p := ⟨ga, i, none⟩) hga).trans ((hgc.cell_far ⟨ga, i, none⟩ hga2 (by intro e; injection e with e; dsimp only at e; omega)).trans (HCA.out w3 (Below.refl _ _) i (by have := HL.out; omega)))
                have eb := (hb9.cell (p := ⟨gb, J, none⟩) hgb).trans ((hgc.cell_far ⟨gb, J, none⟩ hgb2 (by intro e; injection e with e; dsimp only at e; omega)).trans (HCB.out w3 (Below.refl _ _) J (by have := HL.out; omega)))
                have ba := bdL_getD HBA.out (by omega) i
                have bb := bdL_getD HBB.out (by omega) J
                have hga9 : ga < wr.heap.size := by omega
                have hgb9 : gb < wr.heap.size := by omega
                have hst := bestM_step (fun x hx => (HW.out.2.1 x hx).1) hjW
                rw [hWj] at hst
                generalize XA.getD i 0 = xa at *
                generalize XB.getD J 0 = xb at *
                have hw3 : IntKind.i64.wrap (xa + xb) = xa + xb := IntWalk.i64_in _ (by omega)
                have hw4 : RowKit.wrap64 (xa + xb) = xa + xb := IntWalk.wrap64_in _ (by omega)
                have hbm : bestM W j ≤ 1000 ∧ -1 ≤ bestM W j := by
                  unfold bestM
                  split
                  · omega
                  · rename_i hj0
                    have hne : W.take j ≠ [] := by
                      intro e
                      have := congrArg List.length e
                      rw [List.length_take, List.length_nil] at this; omega
                    have := HW.out.2.1 _ (List.mem_of_mem_take (lowL_mem hne))
                    omega
                generalize bestM W j = bm at *
                clear hgc e1 e2 hWj
                have HSS := Lib.hid hst
                have HJJ := Lib.hid (And.intro hj1 hj2)
                clear hst hj1 hj2
                by_cases hneg : bm < 0
                · have hd2 : decide (bm < 0) = true := decide_eq_true hneg
                  go_wp2
                  go_quiet (fail)
                  go_wp2
                  go_quiet (fail)
                  go_wp2
                  go_roundw
                  case rel => exact ⟨i + 1, by omega, by omega, by go_num, by rw [HJJ.out.2, HSS.out, if_pos (.inl hneg)], by (repeat (first | (with_reducible assumption) | (with_reducible exact Below.refl _ _) | ((with_reducible refine Below.alloc ?_ ?hsz _); (case hsz => (first | omega | (simp; done) | (simp; omega) | (simp at *; omega)))) | ((with_reducible refine Below.setCell ?_ ?hsz _); (case hsz => (first | omega | (simp; done) | (simp; omega) | (simp at *; omega)))) | (with_reducible refine Below.drew ?_) | (with_reducible refine below_drewN ?_ _) | ((with_reducible refine Below.trans ?_ (Below.mono (by with_reducible assumption) ?hsz)); (case hsz => (first | omega | (simp; done) | (simp; omega) | (simp at *; omega))))))⟩
                  case measure => simp [intOf] <;> omega
                · have hd2 : decide (bm < 0) = false := decide_eq_false hneg
                  by_cases hless : xa + xb < bm
                  · have hd3 : decide (xa + xb < bm) = true := decide_eq_true hless
                    clear hneg
                    go_wp2
                    go_quiet (fail)
                    go_wp2
                    go_quiet (fail)
                    go_wp2
                    go_roundw
                    case rel => exact ⟨i + 1, by omega, by omega, by go_num, by rw [HJJ.out.2, HSS.out, if_pos (.inr hless)], by (repeat (first | (with_reducible assumption) | (with_reducible exact Below.refl _ _) | ((with_reducible refine Below.alloc ?_ ?hsz _); (case hsz => (first | omega | (simp; done) | (simp; omega) | (simp at *; omega)))) | ((with_reducible refine Below.setCell ?_ ?hsz _); (case hsz => (first | omega | (simp; done) | (simp; omega) | (simp at *; omega)))) | (with_reducible refine Below.drew ?_) | (with_reducible refine below_drewN ?_ _) | ((with_reducible refine Below.trans ?_ (Below.mono (by with_reducible assumption) ?hsz)); (case hsz => (first | omega | (simp; done) | (simp; omega) | (simp at *; omega))))))⟩
                    case measure => simp [intOf] <;> omega
                  · have hd3 : decide (xa + xb < bm) = false := decide_eq_false hless
                    have HNO := Lib.hid (fun h : bm < 0 ∨ xa + xb < bm => h.elim hneg hless)
                    clear hneg hless
                    go_wp2
                    go_quiet (fail)
                    go_wp2
                    go_roundw
                    case rel => exact ⟨i + 1, by omega, by omega, by go_num, by rw [HJJ.out.2, HSS.out, if_neg HNO.out], by (repeat (first | (with_reducible assumption) | (with_reducible exact Below.refl _ _) | ((with_reducible refine Below.alloc ?_ ?hsz _); (case hsz => (first | omega | (simp; done) | (simp; omega) | (simp at *; omega)))) | ((with_reducible refine Below.setCell ?_ ?hsz _); (case hsz => (first | omega | (simp; done) | (simp; omega) | (simp at *; omega)))) | (with_reducible refine Below.drew ?_) | (with_reducible refine below_drewN ?_ _) | ((with_reducible refine Below.trans ?_ (Below.mono (by with_reducible assumption) ?hsz)); (case hsz => (first | omega | (simp; done) | (simp; omega) | (simp at *; omega))))))⟩
                    case measure => simp [intOf] <;> omega
              · have hd1 : decide ((J : Int) < (LY : Int)) = false := decide_eq_false (by omega)
                have hj1 : i - (k + 1 - LY) = 0 := by omega
                have hj2 : i + 1 - (k + 1 - LY) = 0 := by omega
                rw [hj1]
                have HJJ := Lib.hid hj2
                have hJY2 : decide (J < LY) = false := decide_eq_false hJY
                clear hj1 hj2 hJY
                go_wp2
                go_quiet (fail)
                go_wp2
                go_roundw
                case rel => exact ⟨i + 1, by omega, by omega, by go_num, by rw [HJJ.out], by (repeat (first | (with_reducible assumption) | (with_reducible exact Below.refl _ _) | ((with_reducible refine Below.alloc ?_ ?hsz _); (case hsz => (first | omega | (simp; done) | (simp; omega) | (simp at *; omega)))) | ((with_reducible refine Below.setCell ?_ ?hsz _); (case hsz => (first | omega | (simp; done) | (simp; omega) | (simp at *; omega)))) | (with_reducible refine Below.drew ?_) | (with_reducible refine below_drewN ?_ _) | ((with_reducible refine Below.trans ?_ (Below.mono (by with_reducible assumption) ?hsz)); (case hsz => (first | omega | (simp; done) | (simp; omega) | (simp at *; omega))))))⟩
                case measure => simp [intOf] <;> omega
            · have hall : i - (k + 1 - LY) = W.length := by have h1 := HW.out.2.2.1; have h2 := HL.out; omega
              rw [hall, bestM_all HW.out.1]
              obtain ⟨hgc, hown, hblk⟩ := HC.out
              have hown9 := own_keep hown (Nat.le_refl _) hb9
              have hgw9 := grow_below hgc hb9
              have hbw9 := hbw.trans (hb9.mono hBW)
              have hrow : ∀ q, (Value.slice A1 k c1).ownBlock = some q → w.heap.size ≤ q ∧ q < wr.heap.size := fun q hq => hown9.lt q hq
              clear hall HC hgc hown
              generalize lowL W = y at *
              by_cases hikk : i ≤ k
              all_goals
                go_wp2_with (first
                  | (at_builtin
                     go_must (refine wpList_append_lies _ rfl _ _ 28 rfl w.heap.size 3 i0 _ 1 8 Try.underlying28 hi0 hz0 hz1 hz2 rfl (by omega) _ k _ rfl (hown9.alloc _) ⟨wr.heap.size, 0, none⟩ 1 1 [.int .i64 y] rfl rfl (World.news_of_block (cs := #[.int .i64 y]) (t := 3) (fr := (0, 0)) (heap_alloc_new _ _)) (by simp [Value.oneCell']) (by omega) (by unfold maxLen; omega) (by omega) (by simp; omega) _ rfl ?_)
                     intro g2 k2 w7 hown7 hgr7 hat7 hlt7))
                have hb7 : Below w.heap.size w w7 := by
                  refine Below.grown (w := wr.alloc (.cells #[.int .i64 y] 3)) (by (repeat (first | (with_reducible assumption) | (with_reducible exact Below.refl _ _) | ((with_reducible refine Below.alloc ?_ ?hsz _); (case hsz => (first | omega | (simp; done) | (simp; omega) | (simp at *; omega)))) | ((with_reducible refine Below.setCell ?_ ?hsz _); (case hsz => (first | omega | (simp; done) | (simp; omega) | (simp at *; omega)))) | (with_reducible refine Below.drew ?_) | (with_reducible refine below_drewN ?_ _) | ((with_reducible refine Below.trans ?_ (Below.mono (by with_reducible assumption) ?hsz)); (case hsz => (first | omega | (simp; done) | (simp; omega) | (simp at *; omega))))))) hgr7 (by simp; omega) (fun q hq => (hrow q hq).1)
                have hg7 : w3.grownBy w7 (some w.heap.size) := grow_more (grow_alloc hgw9 _) hgr7 (fun q hq => by
                  rcases hblk q hq with h | h
                  · exact .inr (by rw [h])
                  · exact .inl h)
                have hk7 : ∀ q, (Value.slice (some ⟨g2, 0, none⟩) (k + 1) k2).ownBlock = some q → q = w.heap.size ∨ w3.heap.size ≤ q := fun q hq => by
                  have e : q = g2 := by injection hq with hq; exact hq.symm
                  subst e
                  rcases hat7 with h | h
                  · exact hblk _ h
                  · simp at h
                    exact .inr (by omega)
                have HF := Lib.hid (And.intro hown7 (And.intro hg7 (And.intro hb7 hk7)))
                clear hown7 hg7 hb7 hk7 hgr7 hat7 hlt7 hrow hblk
                go_roundw
                case rel => exact ⟨k + 1, k2, some ⟨g2, 0, none⟩, by omega, by go_num, rfl, by rw [HS.out, List.map_append]; exact HF.out.1, HF.out.2⟩
                case measure => simp [intOf] <;> omega
        · have hk2 : (besideL XA XB).take k = besideL XA XB := List.take_of_length_le (by have := HL.out; simp [besideL]; omega)
          rw [hk2] at hown
          have hk3 : (besideL XA XB).length = k := by have := HL.out; simp [besideL]; omega
          have HO := Lib.hid (And.intro hown hk3)
          clear hk2 hk3 hown
          go_wp2
          go_ret
          exact ⟨_, rfl, by rw [HCO.out]; exact ⟨by rw [HO.out.2]; exact HO.out.1, by rw [HO.out.2]; unfold small; omega⟩, by (repeat (first | (with_reducible assumption) | (with_reducible exact Below.refl _ _) | ((with_reducible refine Below.alloc ?_ ?hsz _); (case hsz => (first | omega | (simp; done) | (simp; omega) | (simp at *; omega)))) | ((with_reducible refine Below.setCell ?_ ?hsz _); (case hsz => (first | omega | (simp; done) | (simp; omega) | (simp at *; omega)))) | (with_reducible refine Below.drew ?_) | (with_reducible refine below_drewN ?_ _) | ((with_reducible refine Below.trans ?_ (Below.mono (by with_reducible assumption) ?hsz)); (case hsz => (first | omega | (simp; done) | (simp; omega) | (simp at *; omega))))))⟩

end Go.Proofs.Ytobbeofibkpbaaa

/- Contracts of the functions of chapter 8: CarriesOf (program and model), CostsOf of the model. -/
namespace Go.Proofs.Ytobbeofibkpbaaa
open Go.RowKit

set_option maxHeartbeats 1000000 in
set_option maxRecDepth 20000 in
theorem carriesOf_any (v : Value) (ts : List Mk) (b : Nat) (w : World) (h : Marks w b v ts) :
    Calls Try.prog 43 #[v] w fun e w' => e = .returned (.int .i64 (carriesN ts)) ∧ Below w.heap.size w w' := by
  obtain ⟨A, c, rfl, hc1, hc2, -, -⟩ := h.form
  unfold maxLen at hc2
  cases ht : termB ts
  · have HR := Lib.hid (show carriesN ts = -1 by simp [carriesN, ht])
    go_enter Try.func43, Try.ntmps43
    go_wp2_with (first
      | (go_at_call 45; ((with_reducible refine (termOk_any _ ts b _ (h.keep (by (repeat (first | (with_reducible assumption) | (with_reducible exact Below.refl _ _) | ((with_reducible refine Below.alloc ?_ ?hsz _); (case hsz => (first | omega | (simp; done) | (simp; omega) | (simp at *; omega)))) | ((with_reducible refine Below.setCell ?_ ?hsz _); (case hsz => (first | omega | (simp; done) | (simp; omega) | (simp at *; omega)))) | (with_reducible refine Below.drew ?_) | (with_reducible refine below_drewN ?_ _) | ((with_reducible refine Below.trans ?_ (Below.mono (by with_reducible assumption) ?hsz)); (case hsz => (first | omega | (simp; done) | (simp; omega) | (simp at *; omega))))))))).mono ?_); rintro e w1 ⟨rfl, hb1⟩; obtain ⟨hc1, hf1, hz1⟩ := bcell hb1; (try simp at hz1); (try have hy1 : w.heap.size < w1.heap.size := by omega); (try have hy2 : w.heap.size + 1 < w1.heap.size := by omega); (try have hy3 : w.heap.size + 1 + 1 < w1.heap.size := by omega))))
    go_ret
    exact ⟨ret_int HR.out.symm, by (repeat (first | (with_reducible assumption) | (with_reducible exact Below.refl _ _) | ((with_reducible refine Below.alloc ?_ ?hsz _); (case hsz => (first | omega | (simp; done) | (simp; omega) | (simp at *; omega)))) | ((with_reducible refine Below.setCell ?_ ?hsz _); (case hsz => (first | omega | (simp; done) | (simp; omega) | (simp at *; omega)))) | (with_reducible refine Below.drew ?_) | (with_reducible refine below_drewN ?_ _) | ((with_reducible refine Below.trans ?_ (Below.mono (by with_reducible assumption) ?hsz)); (case hsz => (first | omega | (simp; done) | (simp; omega) | (simp at *; omega))))))⟩
  · obtain ⟨hT, hg, h7, -⟩ := term_of ht
    have HR := Lib.hid (show carriesN ts = (tmOf ts).carry by simp [carriesN, ht])
    have HT := Lib.hid (And.intro hT (And.intro hg h7))
    clear hT hg h7
    go_enter Try.func43, Try.ntmps43
    go_wp2_with fail
    refine (termOk_any _ ts b _ (h.keep (by (repeat (first | (with_reducible assumption) | (with_reducible exact Below.refl _ _) | ((with_reducible refine Below.alloc ?_ ?hsz _); (case hsz => (first | omega | (simp; done) | (simp; omega) | (simp at *; omega)))) | ((with_reducible refine Below.setCell ?_ ?hsz _); (case hsz => (first | omega | (simp; done) | (simp; omega) | (simp at *; omega)))) | (with_reducible refine Below.drew ?_) | (with_reducible refine below_drewN ?_ _) | ((with_reducible refine Below.trans ?_ (Below.mono (by with_reducible assumption) ?hsz)); (case hsz => (first | omega | (simp; done) | (simp; omega) | (simp at *; omega))))))))).mono ?_
    rintro e w1 ⟨rfl, hb1⟩
    rw [ht]
    have hA := h.arg.keep (w' := w1) (by (repeat (first | (with_reducible assumption) | (with_reducible exact Below.refl _ _) | ((with_reducible refine Below.alloc ?_ ?hsz _); (case hsz => (first | omega | (simp; done) | (simp; omega) | (simp at *; omega)))) | ((with_reducible refine Below.setCell ?_ ?hsz _); (case hsz => (first | omega | (simp; done) | (simp; omega) | (simp at *; omega)))) | (with_reducible refine Below.drew ?_) | (with_reducible refine below_drewN ?_ _) | ((with_reducible refine Below.trans ?_ (Below.mono (by with_reducible assumption) ?hsz)); (case hsz => (first | omega | (simp; done) | (simp; omega) | (simp at *; omega)))))))
    have hA2 : ArgMarks w1 (.slice A ts.length c) (tmOf ts).marks := by rw [← HT.out.1]; exact hA
    have hB1 : Below w.heap.size w w1 := by (repeat (first | (with_reducible assumption) | (with_reducible exact Below.refl _ _) | ((with_reducible refine Below.alloc ?_ ?hsz _); (case hsz => (first | omega | (simp; done) | (simp; omega) | (simp at *; omega)))) | ((with_reducible refine Below.setCell ?_ ?hsz _); (case hsz => (first | omega | (simp; done) | (simp; omega) | (simp at *; omega)))) | (with_reducible refine Below.drew ?_) | (with_reducible refine below_drewN ?_ _) | ((with_reducible refine Below.trans ?_ (Below.mono (by with_reducible assumption) ?hsz)); (case hsz => (first | omega | (simp; done) | (simp; omega) | (simp at *; omega))))))
    have HA := Lib.hid hA2
    clear hA hA2
    go_wp2_with fail
    refine (builtInt_any (tmOf ts) HT.out.2.1 HT.out.2.2 _ _ (HA.out.keep (by (repeat (first | (with_reducible assumption) | (with_reducible exact Below.refl _ _) | ((with_reducible refine Below.alloc ?_ ?hsz _); (case hsz => (first | omega | (simp; done) | (simp; omega) | (simp at *; omega)))) | ((with_reducible refine Below.setCell ?_ ?hsz _); (case hsz => (first | omega | (simp; done) | (simp; omega) | (simp at *; omega)))) | (with_reducible refine Below.drew ?_) | (with_reducible refine below_drewN ?_ _) | ((with_reducible refine Below.trans ?_ (Below.mono (by with_reducible assumption) ?hsz)); (case hsz => (first | omega | (simp; done) | (simp; omega) | (simp at *; omega))))))))).mono ?_
    rintro e w2 ⟨rfl, hb2⟩
    have hz1 := hB1.size
    go_wp2
    go_ret
    exact ⟨ret_int HR.out.symm, by (repeat (first | (with_reducible assumption) | (with_reducible exact Below.refl _ _) | ((with_reducible refine Below.alloc ?_ ?hsz _); (case hsz => (first | omega | (simp; done) | (simp; omega) | (simp at *; omega)))) | ((with_reducible refine Below.setCell ?_ ?hsz _); (case hsz => (first | omega | (simp; done) | (simp; omega) | (simp at *; omega)))) | (with_reducible refine Below.drew ?_) | (with_reducible refine below_drewN ?_ _) | ((with_reducible refine Below.trans ?_ (Below.mono (by with_reducible assumption) ?hsz)); (case hsz => (first | omega | (simp; done) | (simp; omega) | (simp at *; omega))))))⟩

set_option maxHeartbeats 1000000 in
set_option maxRecDepth 20000 in
theorem specCarriesOf_any (v : Value) (ts : List Mk) (b : Nat) (w : World) (h : Marks w b v ts) :
    Calls Try.prog 44 #[v] w fun e w' => e = .returned (.int .i64 (carriesN ts)) ∧ Below w.heap.size w w' := by
  obtain ⟨A, c, rfl, hc1, hc2, -, -⟩ := h.form
  unfold maxLen at hc2
  cases ht : termB ts
  · have HR := Lib.hid (show carriesN ts = -1 by simp [carriesN, ht])
    go_enter Try.func44, Try.ntmps44
    go_wp2_with (first
      | (go_at_call 97; ((with_reducible refine (specTermOk_any _ ts b _ (h.keep (by (repeat (first | (with_reducible assumption) | (with_reducible exact Below.refl _ _) | ((with_reducible refine Below.alloc ?_ ?hsz _); (case hsz => (first | omega | (simp; done) | (simp; omega) | (simp at *; omega)))) | ((with_reducible refine Below.setCell ?_ ?hsz _); (case hsz => (first | omega | (simp; done) | (simp; omega) | (simp at *; omega)))) | (with_reducible refine Below.drew ?_) | (with_reducible refine below_drewN ?_ _) | ((with_reducible refine Below.trans ?_ (Below.mono (by with_reducible assumption) ?hsz)); (case hsz => (first | omega | (simp; done) | (simp; omega) | (simp at *; omega))))))))).mono ?_); rintro e w1 ⟨rfl, hb1⟩; obtain ⟨hc1, hf1, hz1⟩ := bcell hb1; (try simp at hz1); (try have hy1 : w.heap.size < w1.heap.size := by omega); (try have hy2 : w.heap.size + 1 < w1.heap.size := by omega); (try have hy3 : w.heap.size + 1 + 1 < w1.heap.size := by omega))))
    go_ret
    exact ⟨ret_int HR.out.symm, by (repeat (first | (with_reducible assumption) | (with_reducible exact Below.refl _ _) | ((with_reducible refine Below.alloc ?_ ?hsz _); (case hsz => (first | omega | (simp; done) | (simp; omega) | (simp at *; omega)))) | ((with_reducible refine Below.setCell ?_ ?hsz _); (case hsz => (first | omega | (simp; done) | (simp; omega) | (simp at *; omega)))) | (with_reducible refine Below.drew ?_) | (with_reducible refine below_drewN ?_ _) | ((with_reducible refine Below.trans ?_ (Below.mono (by with_reducible assumption) ?hsz)); (case hsz => (first | omega | (simp; done) | (simp; omega) | (simp at *; omega))))))⟩
  · obtain ⟨hT, hg, h7, -⟩ := term_of ht
    have HR := Lib.hid (show carriesN ts = ((tmOf ts).costs.length : Int) - 1 by rw [carries_costs ht]; simp [costsR, ht])
    have hsm := (tmOf ts).costs_small hg
    have HT := Lib.hid (And.intro hT (And.intro hg h7))
    obtain ⟨L, hL⟩ : ∃ L, (tmOf ts).costs.length = L := ⟨_, rfl⟩
    rw [hL] at HR hsm
    clear hT hg
    go_enter Try.func44, Try.ntmps44
    go_wp2_with fail
    refine (specTermOk_any _ ts b _ (h.keep (by (repeat (first | (with_reducible assumption) | (with_reducible exact Below.refl _ _) | ((with_reducible refine Below.alloc ?_ ?hsz _); (case hsz => (first | omega | (simp; done) | (simp; omega) | (simp at *; omega)))) | ((with_reducible refine Below.setCell ?_ ?hsz _); (case hsz => (first | omega | (simp; done) | (simp; omega) | (simp at *; omega)))) | (with_reducible refine Below.drew ?_) | (with_reducible refine below_drewN ?_ _) | ((with_reducible refine Below.trans ?_ (Below.mono (by with_reducible assumption) ?hsz)); (case hsz => (first | omega | (simp; done) | (simp; omega) | (simp at *; omega))))))))).mono ?_
    rintro e w1 ⟨rfl, hb1⟩
    rw [ht]
    have hA := h.arg.keep (w' := w1) (by (repeat (first | (with_reducible assumption) | (with_reducible exact Below.refl _ _) | ((with_reducible refine Below.alloc ?_ ?hsz _); (case hsz => (first | omega | (simp; done) | (simp; omega) | (simp at *; omega)))) | ((with_reducible refine Below.setCell ?_ ?hsz _); (case hsz => (first | omega | (simp; done) | (simp; omega) | (simp at *; omega)))) | (with_reducible refine Below.drew ?_) | (with_reducible refine below_drewN ?_ _) | ((with_reducible refine Below.trans ?_ (Below.mono (by with_reducible assumption) ?hsz)); (case hsz => (first | omega | (simp; done) | (simp; omega) | (simp at *; omega)))))))
    have hA2 : ArgMarks w1 (.slice A ts.length c) (tmOf ts).marks := by rw [← HT.out.1]; exact hA
    have hB1 : Below w.heap.size w w1 := by (repeat (first | (with_reducible assumption) | (with_reducible exact Below.refl _ _) | ((with_reducible refine Below.alloc ?_ ?hsz _); (case hsz => (first | omega | (simp; done) | (simp; omega) | (simp at *; omega)))) | ((with_reducible refine Below.setCell ?_ ?hsz _); (case hsz => (first | omega | (simp; done) | (simp; omega) | (simp at *; omega)))) | (with_reducible refine Below.drew ?_) | (with_reducible refine below_drewN ?_ _) | ((with_reducible refine Below.trans ?_ (Below.mono (by with_reducible assumption) ?hsz)); (case hsz => (first | omega | (simp; done) | (simp; omega) | (simp at *; omega))))))
    have HA := Lib.hid hA2
    clear hA hA2
    go_wp2_with fail
    refine (l8Costs_any (tmOf ts) HT.out.2.1 HT.out.2.2 _ _ (HA.out.keep (by (repeat (first | (with_reducible assumption) | (with_reducible exact Below.refl _ _) | ((with_reducible refine Below.alloc ?_ ?hsz _); (case hsz => (first | omega | (simp; done) | (simp; omega) | (simp at *; omega)))) | ((with_reducible refine Below.setCell ?_ ?hsz _); (case hsz => (first | omega | (simp; done) | (simp; omega) | (simp at *; omega)))) | (with_reducible refine Below.drew ?_) | (with_reducible refine below_drewN ?_ _) | ((with_reducible refine Below.trans ?_ (Below.mono (by with_reducible assumption) ?hsz)); (case hsz => (first | omega | (simp; done) | (simp; omega) | (simp at *; omega))))))))).mono ?_
    rintro e w2 ⟨r, rfl, hr, hb2⟩
    obtain ⟨A9, c9, rfl, -, -, -, -⟩ := hr.form
    rw [hL]
    have hz1 := hB1.size
    clear hL hr
    go_wp2
    go_ret
    exact ⟨ret_int HR.out.symm, by (repeat (first | (with_reducible assumption) | (with_reducible exact Below.refl _ _) | ((with_reducible refine Below.alloc ?_ ?hsz _); (case hsz => (first | omega | (simp; done) | (simp; omega) | (simp at *; omega)))) | ((with_reducible refine Below.setCell ?_ ?hsz _); (case hsz => (first | omega | (simp; done) | (simp; omega) | (simp at *; omega)))) | (with_reducible refine Below.drew ?_) | (with_reducible refine below_drewN ?_ _) | ((with_reducible refine Below.trans ?_ (Below.mono (by with_reducible assumption) ?hsz)); (case hsz => (first | omega | (simp; done) | (simp; omega) | (simp at *; omega))))))⟩

end Go.Proofs.Ytobbeofibkpbaaa
