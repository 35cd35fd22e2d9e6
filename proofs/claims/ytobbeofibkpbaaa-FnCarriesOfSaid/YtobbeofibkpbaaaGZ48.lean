/- Plain facts. -/
import Derived.Test.YtobbeofibkpbaaaGZ38
import Derived.Test.YtobbeofibkpbaaaGZ52
import Derived.Test.YtobbeofibkpbaaaGZ19
import Derived.Test.YtobbeofibkpbaaaGZ23
import Derived.Test.YtobbeofibkpbaaaE9
/- Contracts of the draws: a net out of a code; and the laws' fixed answer. -/
namespace Go.Proofs.Ytobbeofibkpbaaa
open Go.RowKit

theorem net2 : netOkB 2 [] = true := by decide
theorem net0 : netOkB 0 [] = false := by decide

set_option maxHeartbeats 1000000 in
set_option maxRecDepth 20000 in
theorem alive_any (w : World) : Calls Try.prog 18 #[] w fun e w' => e = .returned (.bool true) ∧ Below w.heap.size w w' := by
  have n2 := net2
  have n0 := net0
  go_enter Try.func18, Try.ntmps18
  go_wp2_with (first
    | (go_at_call 63; ((with_reducible refine (netOk_any _ _ [] 0 _ (Pipes_nil _ _)).mono ?_); rintro e w1 ⟨rfl, hb1⟩; obtain ⟨hc1, hf1, hz1⟩ := bcell hb1; (try simp at hz1); (try have hy1 : w.heap.size < w1.heap.size := by omega); (try have hy2 : w.heap.size + 1 < w1.heap.size := by omega); (try have hy3 : w.heap.size + 1 + 1 < w1.heap.size := by omega))))
  go_ret
  exact ⟨rfl, by (repeat (first | (with_reducible assumption) | (with_reducible exact Below.refl _ _) | ((with_reducible refine Below.alloc ?_ ?hsz _); (case hsz => (first | omega | (simp; done) | (simp; omega) | (simp at *; omega)))) | ((with_reducible refine Below.setCell ?_ ?hsz _); (case hsz => (first | omega | (simp; done) | (simp; omega) | (simp at *; omega)))) | (with_reducible refine Below.drew ?_) | (with_reducible refine below_drewN ?_ _) | ((with_reducible refine Below.trans ?_ (Below.mono (by with_reducible assumption) ?hsz)); (case hsz => (first | omega | (simp; done) | (simp; omega) | (simp at *; omega))))))⟩

theorem own_take {w : World} {b n size : Nat} {e : TypeId} {A : Option Addr} {c : Nat} {xs : List Value} (h : w.ownsRow b e size (.slice A n c) n xs) {k : Nat} (hk : k ≤ n) (h0 : 0 < n) : w.ownsRow b e size (.slice A k c) k (xs.take (k * size)) := by
  have hle : k * size ≤ n * size := Nat.mul_le_mul_right _ hk
  refine ⟨by rw [List.length_take, h.1]; omega, ?_⟩
  rcases h.2 with ⟨hv, h1⟩ | ⟨g, cap, cur, hv, hg, hh, h1, h2, h3, h4⟩
  · omega
  · injection hv with e1 e2 e3
    subst e1; subst e3
    exact .inr ⟨g, c, cur, rfl, hg, hh, by omega, h2, h3, by rw [← h4, List.take_take]; congr 1; omega⟩

theorem flat_take (ps : List Pp) (k : Nat) : (ps.flatMap Pp.cells).take (k * 5) = (ps.take k).flatMap Pp.cells := by
  induction ps generalizing k with
  | nil => simp
  | cons p ps ih =>
    cases k with
    | zero => simp
    | succ k =>
      have e : (k + 1) * 5 = k * 5 + 5 := by omega
      rw [e, List.take_succ_cons, List.flatMap_cons, List.flatMap_cons, ← ih k]
      simp [Pp.cells]

theorem Pipes.take {w : World} {b : Nat} {A : Option Addr} {c : Nat} {ps : List Pp} (h : Pipes w b (.slice A ps.length c) ps) {k : Nat} (hk : k ≤ ps.length) (h0 : 0 < ps.length) : Pipes w b (.slice A k c) (ps.take k) := by
  have hl : (ps.take k).length = k := by simp; omega
  refine ⟨?_, by rw [hl]; exact Nat.le_trans hk h.2⟩
  have := own_take h.1 hk h0
  rw [flat_take] at this
  rw [hl]
  exact this

end Go.Proofs.Ytobbeofibkpbaaa

/- Contract of l20Term: a row of marks, each part of it with a pipe first (chapter 8's draws). -/
namespace Go.Proofs.Ytobbeofibkpbaaa
open Go.RowKit

/-- what the operations yield -/
def tmV (B gp k : Nat) (pv s1 s2 : Value) (kd : Int) (L1 L2 : List Mk) : Nat → Value → World → Prop
  | 0, x, w => ∃ g : Nat, x = .slice (some ⟨g, 0, none⟩) 0 0 ∧ B ≤ g ∧ w.heap[g]? = some (.cells #[] 102 (0, 0))
  | 1, x, _ => x = pv
  | 2, x, _ => x = .int .i64 (k : Int)
  | 3, x, _ => x = .pointer (some ⟨gp, k, none⟩)
  | 4, x, _ => x = s1
  | 5, x, w => Marks w B x L1
  | 6, x, _ => x = pv
  | 7, x, _ => x = .int .i64 (k : Int)
  | 8, x, _ => x = .int .i64 ((k : Int) + 1)
  | 9, x, _ => x = .pointer (some ⟨gp, k + 1, none⟩)
  | 10, x, _ => x = s2
  | 11, x, w => Marks w B x (L1 ++ L2)
  | 12, x, _ => x = .int .i64 kd
  | 13, x, _ => x = .agg #[.int .i64 kd, .int .i64 0, .int .i64 0]
  | 14, x, w => ∃ g : Nat, x = .slice (some ⟨g, 0, none⟩) 1 1 ∧ w.heap[g]? = some (.cells #[.int .i64 kd, .int .i64 0, .int .i64 0] 102)
  | 15, x, w => Marks w B x (L1 ++ L2 ++ [⟨kd, 0, 0⟩])
  | 16, x, w => Marks w B x (L1 ++ L2 ++ [⟨kd, 0, 0⟩])
  | _, _, _ => True
def lenV : Value → Nat
  | .slice _ n _ => n
  | _ => 0
def tmR : Nat → World → World → Prop
  | 5, w, w' => ∃ row, w.grownBy w' row ∧ ∀ q, row = some q → ∃ t fr, w.heap[q]? = some (.cells #[] t fr)
  | 11, w, w' => ∃ row, w.grownBy w' row ∧ ∀ q, row = some q → w.cell? ⟨q, 0, none⟩ = some (.int .i64 0)
  | 15, _, _ => True
  | _, w, w' => Below w.heap.size w w'

set_option maxHeartbeats 1000000 in
set_option maxRecDepth 20000 in
theorem odd_all (n : Nat) (rg m c K : Nat) (A : Option Addr) (w : World) (h : Rd w rg A m c K) (hK : K ≤ 100000) (h2 : n ≤ 1000) :
    Calls Try.prog 134 #[.pointer (some ⟨rg, 0, none⟩), .int .i64 (n : Int)] w fun e w' => ∃ b : Bool, e = .returned (.bool b) ∧ Rd w' rg A m c (K + 1) ∧ w.grownBy w' (some rg) ∧ w'.heap.size = w.heap.size := by
  by_cases h1 : 1 ≤ n
  · exact odd_any n rg m c K A w h hK (by omega) (by omega)
  · have h0 : n = 0 := by omega
    subst h0
    go_enter Try.func134, Try.ntmps134
    go_wp2_with fail
    go_ret
    exact ⟨_, rfl, h.more (by omega), grow_refl w _, rfl⟩

set_option maxRecDepth 20000 in
set_option maxHeartbeats 16000000 in
set_option maxRecDepth 20000 in
theorem l20Term_any (n rg m c K : Nat) (A : Option Addr) (w : World) (h : Rd w rg A m c K) (hK : K ≤ 40000) (hn2 : n ≤ 1000) :
    Calls Try.prog 93 #[.pointer (some ⟨rg, 0, none⟩), .int .i64 (n : Int)] w fun e w' => ∃ r ts, e = .returned r ∧ Marks w' w.heap.size r ts ∧ ts.length ≤ 14 ∧ Rd w' rg A m c (K + 200) ∧ w.grownBy w' (some rg) := by
  have hrg := h.1
  obtain ⟨j0, hj0, hy0, hy1, hy2⟩ := info_parts mark_info
  obtain ⟨q0, hq0, hq1, hq2, hq3⟩ := info_parts marks_info2
  have h0 := h.alloc' (.cells #[] 56)
  have hS0 : StkM (w.alloc (.cells #[] 56)) w.heap.size (.slice (some ⟨w.heap.size, 0, none⟩) 0 0) 0 [] := ⟨[], rfl, rfl, lit_own0 (Nat.le_refl _) (heap_alloc_new _ _), fun k hk => absurd hk (by simp)⟩
  have hG0 : w.grownBy (w.alloc (.cells #[] 56)) (some rg) := grow_alloc (grow_refl w _) _
  clear h
  go_enter Try.func93, Try.ntmps93
  go_wp2_with fail
  refine (pick_any 6 rg m c K A _ h0 (by omega) (by omega) (by omega)).mono ?_
  rintro e w2 ⟨x, rfl, x0, x1, hr2, hg2, hs2⟩
  have hS2 := hS0.grownR hg2 hrg
  have hG2 := grow_more hG0 hg2 (fun q hq => .inr hq)
  clear h0 hS0 hG0 hg2 hs2
  obtain ⟨X, rfl⟩ : ∃ X : Nat, x = (X : Int) := ⟨x.toNat, by omega⟩
  go_wp2_with fail
  go_loopw [5, 6] (fun a b wr => ∃ (k M g cp : Nat) (Ls : List (List Mk)), a = .slice (some ⟨g, 0, none⟩) M cp ∧ b = .int .i64 (k : Int) ∧ M + k = X + 1 ∧ StkM wr w.heap.size (.slice (some ⟨g, 0, none⟩) M cp) M Ls ∧ headsP Ls ∧ lenS Ls = M ∧ Rd wr rg A m c (K + 2 + 2 * M) ∧ w.grownBy wr (some rg)) (fun _ b _ => (intOf b).toNat)
  case atStart => exact ⟨X + 1, 0, w.heap.size, 0, [], rfl, by first | rfl | exact congrArg (Value.int .i64) (by omega), by omega, hS2, (fun L hL => by cases hL), rfl, hr2.more (by omega), hG2⟩
  case round =>
    obtain ⟨k, M, g, cp, Ls, rfl, rfl, hMk, hS, hH, hL, hr, hG⟩ := hrel
    clear hS2 hG2 hr2
    have hGz := hG.size
    by_cases hk : 0 < k
    · go_wp2_with fail
      refine (pick_any 5 rg m c _ A _ hr (by omega) (by omega) (by omega)).mono ?_
      rintro e w3 ⟨y, rfl, y0, y1, hr3, hg3, hs3⟩
      have hS3 := hS.grownR hg3 hrg
      have hG3 := grow_more hG hg3 (fun q hq => .inr hq)
      clear hr hS hg3 hs3
      go_wp2_with fail
      refine (pick_any 6 rg m c _ A _ hr3 (by omega) (by omega) (by omega)).mono ?_
      rintro e w4 ⟨z, rfl, z0, z1, hr4, hg4, hs4⟩
      have hS4 := hS3.grownR hg4 hrg
      have hG4 := grow_more hG3 hg4 (fun q hq => .inr hq)
      have hGz4 := hG4.size
      clear hr3 hS3 hG3 hg4 hs4
      have hRow : Marks (w4.alloc (.cells #[.int .i64 0, .int .i64 y, .int .i64 z] 102)) w.heap.size (.slice (some ⟨w4.heap.size, 0, none⟩) 1 1) [⟨0, y, z⟩] :=
        ⟨World.ownsRow_lit (e := 102) (base := w.heap.size) (size := 3) w4 #[.int .i64 0, .int .i64 y, .int .i64 z] 1 hGz4 (by simp [maxLen]) rfl, by simp [small]⟩
      obtain ⟨vs, v1, v2, v3, v4⟩ := hS4
      have hlit : ((w4.alloc (.cells #[.int .i64 0, .int .i64 y, .int .i64 z] 102)).alloc (.cells #[.slice (some ⟨w4.heap.size, 0, none⟩) 1 1] 56)).heap[w4.heap.size + 1]? = some (.cells #[.slice (some ⟨w4.heap.size, 0, none⟩) 1 1] 56) := by
        have := heap_alloc_new (w4.alloc (.cells #[.int .i64 0, .int .i64 y, .int .i64 z] 102)) (.cells #[.slice (some ⟨w4.heap.size, 0, none⟩) 1 1] 56)
        rwa [World.size_alloc] at this
      go_wp2_with (first
        | (at_builtin
           go_must (refine wpList_append_src rfl _ _ 134 rfl w.heap.size 56 q0 _ 1 24 Try.underlying134 hq0 hq1 hq2 hq3 rfl (by omega) _ _ M 1 vs [.slice (some ⟨w4.heap.size, 0, none⟩) 1 1] rfl rfl (own_keep v3 (Nat.le_refl _) (by (repeat (first | (with_reducible assumption) | (with_reducible exact Below.refl _ _) | ((with_reducible refine Below.alloc ?_ ?hsz _); (case hsz => (first | omega | (simp; done) | (simp; omega) | (simp at *; omega)))) | ((with_reducible refine Below.setCell ?_ ?hsz _); (case hsz => (first | omega | (simp; done) | (simp; omega) | (simp at *; omega)))) | (with_reducible refine Below.drew ?_) | (with_reducible refine below_drewN ?_ _) | ((with_reducible refine Below.trans ?_ (Below.mono (by with_reducible assumption) ?hsz)); (case hsz => (first | omega | (simp; done) | (simp; omega) | (simp at *; omega)))))))) (lit_src hlit rfl (by simp [Value.oneCell'])) (by unfold maxLen; omega) (by omega) (by (first | omega | (simp; done) | (simp; omega) | (simp at *; omega))) ?_)
           intro r w7 hown7 hg7 hat7))
      have hS7 := StkM.snoc (w := (w4.alloc (.cells #[.int .i64 0, .int .i64 y, .int .i64 z] 102)).alloc (.cells #[.slice (some ⟨w4.heap.size, 0, none⟩) 1 1] 56)) vs v1 v2 (own_keep v3 (Nat.le_refl _) (by (repeat (first | (with_reducible assumption) | (with_reducible exact Below.refl _ _) | ((with_reducible refine Below.alloc ?_ ?hsz _); (case hsz => (first | omega | (simp; done) | (simp; omega) | (simp at *; omega)))) | ((with_reducible refine Below.setCell ?_ ?hsz _); (case hsz => (first | omega | (simp; done) | (simp; omega) | (simp at *; omega)))) | (with_reducible refine Below.drew ?_) | (with_reducible refine below_drewN ?_ _) | ((with_reducible refine Below.trans ?_ (Below.mono (by with_reducible assumption) ?hsz)); (case hsz => (first | omega | (simp; done) | (simp; omega) | (simp at *; omega)))))))) (fun k hk hk' => (v4 k hk hk').keep (by (repeat (first | (with_reducible assumption) | (with_reducible exact Below.refl _ _) | ((with_reducible refine Below.alloc ?_ ?hsz _); (case hsz => (first | omega | (simp; done) | (simp; omega) | (simp at *; omega)))) | ((with_reducible refine Below.setCell ?_ ?hsz _); (case hsz => (first | omega | (simp; done) | (simp; omega) | (simp at *; omega)))) | (with_reducible refine Below.drew ?_) | (with_reducible refine below_drewN ?_ _) | ((with_reducible refine Below.trans ?_ (Below.mono (by with_reducible assumption) ?hsz)); (case hsz => (first | omega | (simp; done) | (simp; omega) | (simp at *; omega)))))))) (hRow.keep (by (repeat (first | (with_reducible assumption) | (with_reducible exact Below.refl _ _) | ((with_reducible refine Below.alloc ?_ ?hsz _); (case hsz => (first | omega | (simp; done) | (simp; omega) | (simp at *; omega)))) | ((with_reducible refine Below.setCell ?_ ?hsz _); (case hsz => (first | omega | (simp; done) | (simp; omega) | (simp at *; omega)))) | (with_reducible refine Below.drew ?_) | (with_reducible refine below_drewN ?_ _) | ((with_reducible refine Below.trans ?_ (Below.mono (by with_reducible assumption) ?hsz)); (case hsz => (first | omega | (simp; done) | (simp; omega) | (simp at *; omega)))))))) hg7 hown7
      obtain ⟨g7, c7, rfl, -, -, -, -, -⟩ := hS7.form (by omega)
      have hG7 : w.grownBy w7 (some rg) := grow_more (grow_alloc (grow_alloc hG4 _) _) hg7 (fun q hq => .inl (v3.lt q hq).1)
      have hR7 : Rd w7 rg A m c (K + 2 + 2 * M + 2) := by
        have hrx := (hr4.alloc' (.cells #[.int .i64 0, .int .i64 y, .int .i64 z] 102)).alloc' (.cells #[.slice (some ⟨w4.heap.size, 0, none⟩) 1 1] 56)
        exact (hrx.low (below_grow hg7 (by (first | omega | (simp; done) | (simp; omega) | (simp at *; omega))) (fun q hq => by have := (v3.lt q hq).1; omega))).more (by omega)
      clear hown7 hg7 hat7 v1 v2 v3 v4 hRow hG4 hr4 hGz4 hlit
      go_roundw
      case rel => exact ⟨k - 1, M + 1, g7, c7, _, rfl, by first | rfl | exact congrArg (Value.int .i64) (by omega), by omega, hS7, hH.append (fun L hL => by simp at hL; subst hL; exact ⟨_, [], rfl, rfl⟩), by rw [lenS_append, hL]; rfl, hR7.more (by omega), hG7⟩
      case measure => simp [intOf]; omega
    · have hk0 : (k : Int) = 0 := by omega
      rw [hk0]
      go_wp2_with fail
      have hMX : M = X + 1 := by omega
      clear hk hk0
      go_loopw [5, 7] (fun a b wr => ∃ (M g cp : Nat) (Ls : List (List Mk)) (lf : Int), a = .slice (some ⟨g, 0, none⟩) M cp ∧ b = .int .i64 lf ∧ 0 ≤ lf ∧ lf ≤ 3 ∧ 1 ≤ M ∧ M ≤ 6 ∧ StkM wr w.heap.size (.slice (some ⟨g, 0, none⟩) M cp) M Ls ∧ headsP Ls ∧ lenS Ls + M ≤ 12 ∧ Rd wr rg A m c (K + 30 + 2 * (6 - M)) ∧ w.grownBy wr (some rg)) (fun a _ _ => lenV a)
      case atStart => exact ⟨M, g, cp, Ls, 3, rfl, rfl, by omega, by omega, by omega, by omega, hS, hH, by omega, hr.more (by omega), hG⟩
      case round =>
        clear hS hH hr hG hL hMk hGz hMX
        obtain ⟨M2, g2, cp2, Ls2, lf, rfl, rfl, l0, l3, m1, m6, hS, hH, hL, hr, hG⟩ := hrel
        have hGz := hG.size
        have hLl : Ls2.length = M2 := by obtain ⟨vs, -, h2, -, -⟩ := hS; exact h2
        by_cases hM : 1 < M2
        · go_wp2_with fail
          refine (pick_any _ rg m c _ A _ hr (by omega) (by omega) (by omega)).mono ?_
          rintro e w3 ⟨y, rfl, y0, y1, hr3, hg3, hs3⟩
          have hS3 := hS.grownR hg3 hrg
          have hG3 := grow_more hG hg3 (fun q hq => .inr hq)
          clear hr hS hG hg3 hs3
          obtain ⟨k, rfl⟩ : ∃ k : Nat, y = (k : Int) := ⟨y.toNat, by omega⟩
          go_wp2_with fail
          refine (pick_any 2 rg m c _ A _ hr3 (by omega) (by omega) (by omega)).mono ?_
          rintro e w4 ⟨z, rfl, z0, z1, hr4, hg4, hs4⟩
          have hS4 := hS3.grownR hg4 hrg
          have hG4 := grow_more hG3 hg4 (fun q hq => .inr hq)
          have hGz4 := hG4.size
          clear hr3 hS3 hG3 hg4 hs4
          go_upto_region 10 with fail
          go_cut [46] (fun t wx => w4 = wx ∧ ∃ b : Bool, t = .bool b ∧ (b = false → z = 0 → 0 < lf))
          case first =>
            by_cases hz : z = 0
            · subst hz
              by_cases hl : lf = 0
              · subst hl
                go_wp2_with fail
                go_meet
                exact ⟨rfl, _, rfl, fun h => by simp at h⟩
              · go_wp2_with fail
                go_meet
                exact ⟨rfl, _, rfl, fun _ _ => by omega⟩
            · have hz1 : z = 1 := by omega
              subst hz1
              go_wp2_with fail
              go_meet
              exact ⟨rfl, _, rfl, fun _ h => absurd h (by omega)⟩
          case rest =>
          obtain ⟨rfl, b, rfl, hb⟩ := hcut
          go_upto_if 46 with fail
          go_cut [9] (fun t wx => w4 = wx ∧ ∃ kd : Int, t = .int .i64 kd ∧ (kd = 1 ∨ kd = 2) ∧ (kd = 1 → 0 < lf))
          case first =>
            cases b with
            | true =>
              go_wp2_with fail
              go_meet
              exact ⟨rfl, 2, rfl, .inr rfl, fun h => absurd h (by omega)⟩
            | false =>
              go_wp2_with fail
              go_meet
              exact ⟨rfl, 1 + z, rfl, by omega, fun h => hb (by first | rfl | trivial) (by omega)⟩
          case rest =>
          obtain ⟨rfl, kd, rfl, hkd, hk1⟩ := hcut
          clear hb
          go_upto_if 48 with fail
          go_cut [7] (fun t wx => w4 = wx ∧ ∃ lf' : Int, t = .int .i64 lf' ∧ 0 ≤ lf' ∧ lf' ≤ 3)
          case first =>
            rcases hkd with rfl | rfl
            · have := hk1 rfl
              go_wp2_with fail
              go_meet
              exact ⟨rfl, _, rfl, by omega, by omega⟩
            · go_wp2_with fail
              go_meet
              exact ⟨rfl, _, rfl, by omega, by omega⟩
          case rest =>
          obtain ⟨rfl, lf', rfl, lf0, lf3⟩ := hcut
          have HK0 : kd ≠ 0 := by omega
          clear hk1 hkd l0 l3
          obtain ⟨gq, cq, hvq, c1, c2, gb1, gb2, hcell⟩ := hS4.form (by omega)
          injection hvq with e1 _ e3
          injection e1 with e1
          injection e1 with e1
          subst e1
          subst e3
          obtain ⟨s1, HM1, hf1, HP1⟩ := hcell k (by omega)
          obtain ⟨s2, HM2, hf2, HP2⟩ := hcell (k + 1) (by omega)
          have HD1 := hH Ls2[k] (List.getElem_mem _)
          have hl1 := len_le (List.getElem_mem (by omega : k < Ls2.length))
          have hl2 := len_le (List.getElem_mem (by omega : k + 1 < Ls2.length))
          obtain ⟨L1, hL1⟩ : ∃ L, Ls2[k] = L := ⟨_, rfl⟩
          obtain ⟨L2, hL2⟩ : ∃ L, Ls2[k + 1] = L := ⟨_, rfl⟩
          rw [hL1] at HM1 HD1 hl1
          rw [hL2] at HM2 hl2
          have HLL := Lib.hid (And.intro hL1 hL2)
          clear hL1 hL2 hcell
          go_wp2_with fail
          refine wp_region_flow 17 none [(0, 51), (1, 52), (2, 53), (3, 54), (4, 55), (5, 56), (6, 57), (7, 58), (8, 59), (9, 60), (10, 61), (11, 62), (12, 63), (13, 64), (14, 65), (15, 66), (16, 10)] (fun j x _ wx => tmV w4.heap.size g2 k (.slice (some ⟨g2, 0, none⟩) M2 cp2) s1 s2 kd L1 L2 j x wx) (tmR) (fun _ wx => Below w4.heap.size w4 wx) (by kernel_rfl) (by kernel_rfl) rfl ⟨rfl, rfl, rfl, Nat.le_refl _, fun _ _ => rfl⟩ ?_ ?_ ?_ ?_
          · intro i j hi hj hal x u wx wy hR hV
            have hi' : i < 17 := hi
            have hj' : j < 17 := hj
            by_cases n5 : i = 5
            · subst n5
              obtain ⟨row, hg, hrow⟩ := hR
              rcases j with _ | _ | _ | _ | _ | _ | _ | _ | _ | _ | _ | _ | _ | _ | _ | _ | _ | j
              all_goals first | exact hV | (exfalso; revert hal; decide) | (exfalso; omega) | skip
              obtain ⟨g, h1, h2⟩ := hV
              refine ⟨g, h1, heap_grown h2 hg fun e => ?_⟩
              obtain ⟨t, fr, hc⟩ := hrow g e.symm
              rw [h2] at hc
              injection hc with hc
              injection hc with hc _ _
              exact absurd hc (by simp)
            · by_cases n11 : i = 11
              · subst n11
                obtain ⟨row, hg, hrow⟩ := hR
                rcases j with _ | _ | _ | _ | _ | _ | _ | _ | _ | _ | _ | _ | _ | _ | _ | _ | _ | j
                all_goals first | exact hV | (exfalso; revert hal; decide) | (exfalso; omega) | skip
                obtain ⟨g, h1, h2⟩ := hV
                refine ⟨g, h1, heap_grown h2 hg fun e => ?_⟩
                have hc := hrow g e.symm
                rw [heap_cell h2 (j := 0) rfl] at hc
                injection hc with hc
                injection hc with _ hc
                exact HK0 hc
              · by_cases n15 : i = 15
                · subst n15
                  rcases j with _ | _ | _ | _ | _ | _ | _ | _ | _ | _ | _ | _ | _ | _ | _ | _ | _ | j
                  all_goals first | exact hV | (exfalso; revert hal; decide) | (exfalso; omega)
                · have hb : Below wx.heap.size wx wy := by
                    unfold tmR at hR
                    split at hR
                    · exact absurd rfl n5
                    · exact absurd rfl n11
                    · exact absurd rfl n15
                    · exact hR
                  rcases j with _ | _ | _ | _ | _ | _ | _ | _ | _ | _ | _ | _ | _ | _ | _ | _ | _ | j
                  all_goals first | exact hV | (exfalso; omega) | (exact Marks.keep hV hb) | (obtain ⟨g, h1, h2⟩ := hV; exact ⟨g, h1, heap_keep h2 hb⟩) | (obtain ⟨g, h1, h2, h3⟩ := hV; exact ⟨g, h1, h2, heap_keep h3 hb⟩)
          · exact fun _ _ _ _ _ _ _ h => h
          · simp (maxSteps := 4000000) only [eachOp, fillF, List.setIfInBounds_toArray, List.set_cons_succ, List.set_cons_zero]
            refine ⟨?_, ?_, ?_, ?_, ?_, ?_, ?_, ?_, ?_, ?_, ?_, ?_, ?_, ?_, ?_, ?_, ?_, trivial⟩ <;> intro u f wx hC hd <;> (try simp [allV, useOf, Region.binds] at hd)
            · go_wp2
              exact ⟨_, rfl, ⟨_, rfl, hC.size, heap_alloc_new _ _⟩, (Below.refl _ _).alloc (Nat.le_refl _) _, hC.alloc hC.size _⟩
            · go_wp2
              exact ⟨_, rfl, rfl, Below.refl _ _, hC⟩
            · go_wp2
              exact ⟨_, rfl, rfl, Below.refl _ _, hC⟩
            · rw [show u 1 = _ from (by first | exact hd | exact hd.1 | exact hd.2 | exact hd.2.1 | exact hd.2.2 | exact hd.2.2.1 | exact hd.2.2.2 | exact hd.2.2.2.1 | exact hd.2.2.2.2), show u 2 = _ from (by first | exact hd | exact hd.1 | exact hd.2 | exact hd.2.1 | exact hd.2.2 | exact hd.2.2.1 | exact hd.2.2.2 | exact hd.2.2.2.1 | exact hd.2.2.2.2)]
              go_wp2
              exact ⟨_, rfl, rfl, Below.refl _ _, hC⟩
            · rw [show u 3 = _ from (by first | exact hd | exact hd.1 | exact hd.2 | exact hd.2.1 | exact hd.2.2 | exact hd.2.2.1 | exact hd.2.2.2 | exact hd.2.2.2.1 | exact hd.2.2.2.2)]
              have e0 := HP1 wx hC
              go_wp2
              exact ⟨_, rfl, rfl, Below.refl _ _, hC⟩
            · rw [show u 4 = _ from (by first | exact hd | exact hd.1 | exact hd.2 | exact hd.2.1 | exact hd.2.2 | exact hd.2.2.1 | exact hd.2.2.2 | exact hd.2.2.2.1 | exact hd.2.2.2.2)]
              obtain ⟨hd2, hd3⟩ := hd
              obtain ⟨g, h2, hg2, hh2⟩ : ∃ g : Nat, u 0 = .slice (some ⟨g, 0, none⟩) 0 0 ∧ w4.heap.size ≤ g ∧ wx.heap[g]? = some (.cells #[] 102 (0, 0)) := hd2
              have hsrc := (HM1.keep hC).src
              refine wpList_append_src rfl (.tmp 51) (.tmp 55) 56 rfl w4.heap.size 102 j0 _ 3 24 Try.underlying56 hj0 hy0 hy1 hy2 rfl (by omega) (u 0) (s1) 0 L1.length _ _ rfl rfl (by rw [h2]; exact lit_own0 hg2 hh2) hsrc (by unfold maxLen; omega) (by omega) hC.size ?_
              intro r w7 hown7 hg7 hat7
              rw [Nat.zero_add, List.nil_append] at hown7
              have hrow : ∀ q, (u 0).ownBlock = some q → g = q := fun q hq => by rw [h2] at hq; injection hq
              refine wpList_nil ⟨r, rfl, ⟨hown7, by unfold small; omega⟩, ⟨_, hg7, fun q hq => ?_⟩, Below.grown hC hg7 hC.size (fun q hq => by have := hrow q hq; omega)⟩
              have := hrow q hq
              subst this
              exact ⟨_, _, hh2⟩
            · go_wp2
              exact ⟨_, rfl, rfl, Below.refl _ _, hC⟩
            · go_wp2
              exact ⟨_, rfl, rfl, Below.refl _ _, hC⟩
            · rw [show u 7 = _ from (by first | exact hd | exact hd.1 | exact hd.2 | exact hd.2.1 | exact hd.2.2 | exact hd.2.2.1 | exact hd.2.2.2 | exact hd.2.2.2.1 | exact hd.2.2.2.2)]
              go_wp2
              exact ⟨_, rfl, rfl, Below.refl _ _, hC⟩
            · rw [show u 6 = _ from (by first | exact hd | exact hd.1 | exact hd.2 | exact hd.2.1 | exact hd.2.2 | exact hd.2.2.1 | exact hd.2.2.2 | exact hd.2.2.2.1 | exact hd.2.2.2.2), show u 8 = _ from (by first | exact hd | exact hd.1 | exact hd.2 | exact hd.2.1 | exact hd.2.2 | exact hd.2.2.1 | exact hd.2.2.2 | exact hd.2.2.2.1 | exact hd.2.2.2.2)]
              go_wp2
              exact ⟨_, rfl, rfl, Below.refl _ _, hC⟩
            · rw [show u 9 = _ from (by first | exact hd | exact hd.1 | exact hd.2 | exact hd.2.1 | exact hd.2.2 | exact hd.2.2.1 | exact hd.2.2.2 | exact hd.2.2.2.1 | exact hd.2.2.2.2)]
              have e0 := HP2 wx hC
              go_wp2
              exact ⟨_, rfl, rfl, Below.refl _ _, hC⟩
            · rw [show u 10 = _ from (by first | exact hd | exact hd.1 | exact hd.2 | exact hd.2.1 | exact hd.2.2 | exact hd.2.2.1 | exact hd.2.2.2 | exact hd.2.2.2.1 | exact hd.2.2.2.2)]
              obtain ⟨hd2, hd3⟩ := hd
              have h5 : Marks wx w4.heap.size (u 5) L1 := hd2
              have hsrc := (HM2.keep hC).src
              refine wpList_append_src rfl (.tmp 56) (.tmp 61) 56 rfl w4.heap.size 102 j0 _ 3 24 Try.underlying56 hj0 hy0 hy1 hy2 rfl (by omega) (u 5) (s2) L1.length L2.length _ _ rfl rfl h5.1 hsrc (by unfold maxLen; omega) (by omega) hC.size ?_
              intro r w7 hown7 hg7 hat7
              refine wpList_nil ⟨r, rfl, Marks.app hown7 rfl (by unfold small; omega), ⟨_, hg7, fun q hq => ?_⟩, Below.grown hC hg7 hC.size (fun q hq => (h5.1.lt q hq).1)⟩
              exact head_cell h5 HD1 q hq
            · go_wp2
              exact ⟨_, rfl, rfl, Below.refl _ _, hC⟩
            · rw [show u 12 = _ from (by first | exact hd | exact hd.1 | exact hd.2 | exact hd.2.1 | exact hd.2.2 | exact hd.2.2.1 | exact hd.2.2.2 | exact hd.2.2.2.1 | exact hd.2.2.2.2)]
              go_wp2
              exact ⟨_, rfl, rfl, Below.refl _ _, hC⟩
            · rw [show u 13 = _ from (by first | exact hd | exact hd.1 | exact hd.2 | exact hd.2.1 | exact hd.2.2 | exact hd.2.2.1 | exact hd.2.2.2 | exact hd.2.2.2.1 | exact hd.2.2.2.2)]
              go_wp2
              exact ⟨_, rfl, ⟨_, rfl, heap_alloc_new _ _⟩, (Below.refl _ _).alloc (Nat.le_refl _) _, hC.alloc hC.size _⟩
            · obtain ⟨hd2, hd3⟩ := hd
              have h5 : Marks wx w4.heap.size (u 11) (L1 ++ L2) := hd2
              obtain ⟨g, h6, hh6⟩ : ∃ g : Nat, u 14 = .slice (some ⟨g, 0, none⟩) 1 1 ∧ wx.heap[g]? = some (.cells #[.int .i64 kd, .int .i64 0, .int .i64 0] 102) := hd3
              have h5' := h5.1
              rw [List.length_append] at h5'
              refine wpList_append_src rfl (.tmp 62) (.tmp 65) 56 rfl w4.heap.size 102 j0 _ 3 24 Try.underlying56 hj0 hy0 hy1 hy2 rfl (by omega) (u 11) (u 14) (L1.length + L2.length) 1 _ _ rfl rfl h5' (by rw [h6]; exact lit_src hh6 rfl (by simp [Value.oneCell'])) (by unfold maxLen; omega) (by omega) hC.size ?_
              intro r w7 hown7 hg7 hat7
              exact wpList_nil ⟨r, rfl, Marks.app (us := [⟨kd, 0, 0⟩]) hown7 (by simp) (by unfold small; omega), trivial, Below.grown hC hg7 hC.size (fun q hq => (h5.1.lt q hq).1)⟩
            · go_wp2
              exact ⟨_, rfl, hd, Below.refl _ _, hC⟩
          · intro u f wx hC hfin
            simp only [fillEnd, fillF, Act.put, List.setIfInBounds_toArray, List.set_cons_succ, List.set_cons_zero]
            have hb16 : Marks wx w4.heap.size (u 16) (L1 ++ L2 ++ [⟨kd, 0, 0⟩]) := hfin 16 (by decide) (by decide)
            clear hfin
            obtain ⟨bo, hbo⟩ : ∃ bo, u 16 = bo := ⟨_, rfl⟩
            rw [hbo] at hb16 ⊢
            clear hbo
            obtain ⟨Ab, cb, hv, -⟩ := hb16.form
            obtain ⟨nb, hnb⟩ : ∃ nb, (L1 ++ L2 ++ [(⟨kd, 0, 0⟩ : Mk)]).length = nb := ⟨_, rfl⟩
            rw [hnb] at hv
            subst hv
            clear hnb
            obtain ⟨vs, v1, v2, v3, v4⟩ := hS4
            have hone := heads_one v1 v4
            have hzx := hC.size
            have hsA : SrcOk (wx.alloc (.cells #[] 56)) 1 (.slice (some ⟨g2, 0, none⟩) k cp2) k (vs.take (k * 1)) := own_src (own_fst (own_keep v3 (Nat.le_refl _) (by (repeat (first | (with_reducible assumption) | (with_reducible exact Below.refl _ _) | ((with_reducible refine Below.alloc ?_ ?hsz _); (case hsz => (first | omega | (simp; done) | (simp; omega) | (simp at *; omega)))) | ((with_reducible refine Below.setCell ?_ ?hsz _); (case hsz => (first | omega | (simp; done) | (simp; omega) | (simp at *; omega)))) | (with_reducible refine Below.drew ?_) | (with_reducible refine below_drewN ?_ _) | ((with_reducible refine Below.trans ?_ (Below.mono (by with_reducible assumption) ?hsz)); (case hsz => (first | omega | (simp; done) | (simp; omega) | (simp at *; omega)))))))) (by omega)) (fun u hu => hone u (List.mem_of_mem_take hu))
            go_upto_region 16 with (first
              | (at_builtin
                 go_must (refine wpList_append_src rfl _ _ 134 rfl w4.heap.size 56 q0 _ 1 24 Try.underlying134 hq0 hq1 hq2 hq3 rfl (by omega) _ _ 0 k [] (vs.take (k * 1)) rfl rfl (lit_own0 hzx (heap_alloc_new _ _)) hsA (by unfold maxLen; omega) (by omega) (by (first | omega | (simp; done) | (simp; omega) | (simp at *; omega))) ?_)
                 intro r1 w7 hown7 hg7 hat7))
            rw [Nat.zero_add, List.nil_append] at hown7
            have hB7 : Below w4.heap.size w4 w7 := Below.grown (w := wx.alloc (.cells #[] 56)) (by (repeat (first | (with_reducible assumption) | (with_reducible exact Below.refl _ _) | ((with_reducible refine Below.alloc ?_ ?hsz _); (case hsz => (first | omega | (simp; done) | (simp; omega) | (simp at *; omega)))) | ((with_reducible refine Below.setCell ?_ ?hsz _); (case hsz => (first | omega | (simp; done) | (simp; omega) | (simp at *; omega)))) | (with_reducible refine Below.drew ?_) | (with_reducible refine below_drewN ?_ _) | ((with_reducible refine Below.trans ?_ (Below.mono (by with_reducible assumption) ?hsz)); (case hsz => (first | omega | (simp; done) | (simp; omega) | (simp at *; omega))))))) hg7 (by (first | omega | (simp; done) | (simp; omega) | (simp at *; omega))) (fun q hq => by
              have hq' : wx.heap.size = q := by injection hq
              omega)
            have hz7 := hB7.size
            have hb7 : Below wx.heap.size wx w7 := Below.grown (w := wx.alloc (.cells #[] 56)) (by (repeat (first | (with_reducible assumption) | (with_reducible exact Below.refl _ _) | ((with_reducible refine Below.alloc ?_ ?hsz _); (case hsz => (first | omega | (simp; done) | (simp; omega) | (simp at *; omega)))) | ((with_reducible refine Below.setCell ?_ ?hsz _); (case hsz => (first | omega | (simp; done) | (simp; omega) | (simp at *; omega)))) | (with_reducible refine Below.drew ?_) | (with_reducible refine below_drewN ?_ _) | ((with_reducible refine Below.trans ?_ (Below.mono (by with_reducible assumption) ?hsz)); (case hsz => (first | omega | (simp; done) | (simp; omega) | (simp at *; omega))))))) hg7 (by (first | omega | (simp; done) | (simp; omega) | (simp at *; omega))) (fun q hq => by
              have hq' : wx.heap.size = q := by injection hq
              omega)
            have hbo7 := hb16.keep hb7
            have hlit7 : (w7.alloc (.cells #[Value.slice Ab nb cb] 56)).heap[w7.heap.size]? = some (.cells #[Value.slice Ab nb cb] 56) := heap_alloc_new _ _
            clear hg7 hat7 hb7 hb16
            go_upto_region 17 with (first
              | (at_builtin
                 go_must (refine wpList_append_src rfl _ _ 134 rfl w4.heap.size 56 q0 _ 1 24 Try.underlying134 hq0 hq1 hq2 hq3 rfl (by omega) _ _ k 1 (vs.take (k * 1)) [Value.slice Ab nb cb] rfl rfl (own_keep hown7 (Nat.le_refl _) (by (repeat (first | (with_reducible assumption) | (with_reducible exact Below.refl _ _) | ((with_reducible refine Below.alloc ?_ ?hsz _); (case hsz => (first | omega | (simp; done) | (simp; omega) | (simp at *; omega)))) | ((with_reducible refine Below.setCell ?_ ?hsz _); (case hsz => (first | omega | (simp; done) | (simp; omega) | (simp at *; omega)))) | (with_reducible refine Below.drew ?_) | (with_reducible refine below_drewN ?_ _) | ((with_reducible refine Below.trans ?_ (Below.mono (by with_reducible assumption) ?hsz)); (case hsz => (first | omega | (simp; done) | (simp; omega) | (simp at *; omega)))))))) (lit_src hlit7 rfl (by simp [Value.oneCell'])) (by unfold maxLen; omega) (by omega) (by (first | omega | (simp; done) | (simp; omega) | (simp at *; omega))) ?_)
                 intro r2 w8 hown8 hg8 hat8))
            have hB8 : Below w4.heap.size w4 w8 := Below.grown (w := w7.alloc (.cells #[Value.slice Ab nb cb] 56)) (by (repeat (first | (with_reducible assumption) | (with_reducible exact Below.refl _ _) | ((with_reducible refine Below.alloc ?_ ?hsz _); (case hsz => (first | omega | (simp; done) | (simp; omega) | (simp at *; omega)))) | ((with_reducible refine Below.setCell ?_ ?hsz _); (case hsz => (first | omega | (simp; done) | (simp; omega) | (simp at *; omega)))) | (with_reducible refine Below.drew ?_) | (with_reducible refine below_drewN ?_ _) | ((with_reducible refine Below.trans ?_ (Below.mono (by with_reducible assumption) ?hsz)); (case hsz => (first | omega | (simp; done) | (simp; omega) | (simp at *; omega))))))) hg8 (by (first | omega | (simp; done) | (simp; omega) | (simp at *; omega))) (fun q hq => (hown7.lt q hq).1)
            have hz8 := hB8.size
            have hbo8 := (hbo7.keep (w' := w7.alloc (.cells #[Value.slice Ab nb cb] 56)) (by (repeat (first | (with_reducible assumption) | (with_reducible exact Below.refl _ _) | ((with_reducible refine Below.alloc ?_ ?hsz _); (case hsz => (first | omega | (simp; done) | (simp; omega) | (simp at *; omega)))) | ((with_reducible refine Below.setCell ?_ ?hsz _); (case hsz => (first | omega | (simp; done) | (simp; omega) | (simp at *; omega)))) | (with_reducible refine Below.drew ?_) | (with_reducible refine below_drewN ?_ _) | ((with_reducible refine Below.trans ?_ (Below.mono (by with_reducible assumption) ?hsz)); (case hsz => (first | omega | (simp; done) | (simp; omega) | (simp at *; omega)))))))).oth (own_keep hown7 (Nat.le_refl _) (by (repeat (first | (with_reducible assumption) | (with_reducible exact Below.refl _ _) | ((with_reducible refine Below.alloc ?_ ?hsz _); (case hsz => (first | omega | (simp; done) | (simp; omega) | (simp at *; omega)))) | ((with_reducible refine Below.setCell ?_ ?hsz _); (case hsz => (first | omega | (simp; done) | (simp; omega) | (simp at *; omega)))) | (with_reducible refine Below.drew ?_) | (with_reducible refine below_drewN ?_ _) | ((with_reducible refine Below.trans ?_ (Below.mono (by with_reducible assumption) ?hsz)); (case hsz => (first | omega | (simp; done) | (simp; omega) | (simp at *; omega)))))))) hg8
            have hsC := part_src (k := k + 2) v3 hB8 (by omega) (by omega) hone (cp2 - (k + 2))
            clear hlit7 hbo7 hown7 hB7 hat8 hg8 hz7
            have hS9 : ∀ (w9 : World) (r3 : Value), w9.ownsRow w4.heap.size 56 1 r3 (k + 1 + (M2 - (k + 2))) (vs.take (k * 1) ++ [Value.slice Ab nb cb] ++ vs.drop (k + 2)) → w8.grownBy w9 r2.ownBlock → Below w4.heap.size w4 w9 ∧ StkM w9 w.heap.size r3 (M2 - 1) (joinM Ls2 k kd) := by
              intro w9 r3 hown9 hg9
              have hB9 : Below w4.heap.size w4 w9 := Below.grown hB8 hg9 (by (first | omega | (simp; done) | (simp; omega) | (simp at *; omega))) (fun q hq => (hown8.lt q hq).1)
              refine ⟨hB9, ?_⟩
              have hbo9 := (hbo8.oth hown8 hg9).mono hGz4
              have e0 : k + 1 + (M2 - (k + 2)) = M2 - 1 := by omega
              rw [e0] at hown9
              have eL1 : Ls2.getD k [] = L1 := by rw [← HLL.out.1]; simp [List.getD_eq_getElem?_getD, List.getElem?_eq_getElem (by omega : k < Ls2.length)]
              have eL2 : Ls2.getD (k + 1) [] = L2 := by rw [← HLL.out.2]; simp [List.getD_eq_getElem?_getD, List.getElem?_eq_getElem (by omega : k + 1 < Ls2.length)]
              unfold joinM
              rw [eL1, eL2]
              refine ⟨_, by simp [v1], by simp; omega, own_mono hown9 hGz4, fun i hi hi' => ?_⟩
              have hvk : vs.length = Ls2.length := v1
              by_cases h1 : i < k
              · have e1 : (vs.take (k * 1) ++ [Value.slice Ab nb cb] ++ vs.drop (k + 2))[i] = vs[i]'(by omega) := by
                  rw [List.getElem_append_left (by simp; omega), List.getElem_append_left (by simp; omega), List.getElem_take]
                have e2 : (Ls2.take k ++ [L1 ++ L2 ++ [⟨kd, 0, 0⟩]] ++ Ls2.drop (k + 2))[i] = Ls2[i]'(by omega) := by
                  rw [List.getElem_append_left (by simp; omega), List.getElem_append_left (by simp; omega), List.getElem_take]
                rw [e1, e2]
                exact (v4 i (by omega) (by omega)).keep hB9
              · by_cases h2 : i = k
                · subst h2
                  have e1 : (vs.take (i * 1) ++ [Value.slice Ab nb cb] ++ vs.drop (i + 2))[i] = Value.slice Ab nb cb := by
                    rw [List.getElem_append_left (by simp; omega), List.getElem_append_right (by simp; omega)]
                    simp
                  have e2 : (Ls2.take i ++ [L1 ++ L2 ++ [⟨kd, 0, 0⟩]] ++ Ls2.drop (i + 2))[i] = L1 ++ L2 ++ [⟨kd, 0, 0⟩] := by
                    rw [List.getElem_append_left (by simp; omega), List.getElem_append_right (by simp; omega)]
                    simp
                  rw [e1, e2]
                  exact hbo9
                · simp only [List.length_append, List.length_take, List.length_drop, List.length_singleton] at hi hi'
                  have e1 : (vs.take (k * 1) ++ [Value.slice Ab nb cb] ++ vs.drop (k + 2))[i] = vs[i + 1]'(by omega) := by
                    rw [List.getElem_append_right (by simp; omega), List.getElem_drop]
                    congr 1; simp; omega
                  have e2 : (Ls2.take k ++ [L1 ++ L2 ++ [⟨kd, 0, 0⟩]] ++ Ls2.drop (k + 2))[i] = Ls2[i + 1]'(by omega) := by
                    rw [List.getElem_append_right (by simp; omega), List.getElem_drop]
                    congr 1; simp; omega
                  rw [e1, e2]
                  exact (v4 (i + 1) (by omega) (by omega)).keep hB9
            clear hbo8
            by_cases hcc : cp2 = k + 2
            · have hMe : M2 = k + 2 := by omega
              subst hMe
              subst hcc
              go_wp2_with (first
                | (at_builtin
                   go_must (refine wpList_append_src rfl _ _ 134 rfl w4.heap.size 56 q0 _ 1 24 Try.underlying134 hq0 hq1 hq2 hq3 rfl (by omega) r2 _ (k + 1) ((k + 2) - (k + 2)) (vs.take (k * 1) ++ [Value.slice Ab nb cb]) (vs.drop (k + 2)) rfl rfl hown8 (.inr ⟨_, _, rfl, by simp; omega, fun j u hj => absurd hj (by rw [List.drop_eq_nil_of_le (by omega)]; simp), fun u hu => hone u (List.mem_of_mem_drop hu)⟩) (by unfold maxLen; omega) (by omega) (by (first | omega | (simp; done) | (simp; omega) | (simp at *; omega))) ?_)
                   intro r3 w9 hown9 hg9 hat9))
              obtain ⟨hB9, hStk⟩ := hS9 w9 r3 hown9 hg9
              clear hown9 hg9 hat9
              obtain ⟨g9, c9, rfl, -, -, -, -, -⟩ := hStk.form (by omega)
              have hJ1 := join_lenS (kd := kd) (Ls := Ls2) (k := k) (by omega)
              go_roundw
              case rel => exact ⟨(k + 2) - 1, g9, c9, joinM Ls2 k kd, lf', rfl, rfl, lf0, lf3, by omega, by omega, hStk, join_heads (by omega) hH, by omega, (hr4.keep hB9).more (by omega), grow_below hG4 hB9⟩
              case measure => first | (simp [lenV]; omega) | simp [lenV]
            · go_wp2_with (first
                | (at_builtin
                   go_must (refine wpList_append_src rfl _ _ 134 rfl w4.heap.size 56 q0 _ 1 24 Try.underlying134 hq0 hq1 hq2 hq3 rfl (by omega) r2 _ (k + 1) (M2 - (k + 2)) (vs.take (k * 1) ++ [Value.slice Ab nb cb]) (vs.drop (k + 2)) rfl rfl hown8 (hsC) (by unfold maxLen; omega) (by omega) (by (first | omega | (simp; done) | (simp; omega) | (simp at *; omega))) ?_)
                   intro r3 w9 hown9 hg9 hat9))
              obtain ⟨hB9, hStk⟩ := hS9 w9 r3 hown9 hg9
              clear hown9 hg9 hat9
              obtain ⟨g9, c9, rfl, -, -, -, -, -⟩ := hStk.form (by omega)
              have hJ1 := join_lenS (kd := kd) (Ls := Ls2) (k := k) (by omega)
              go_roundw
              case rel => exact ⟨M2 - 1, g9, c9, joinM Ls2 k kd, lf', rfl, rfl, lf0, lf3, by omega, by omega, hStk, join_heads (by omega) hH, by omega, (hr4.keep hB9).more (by omega), grow_below hG4 hB9⟩
              case measure => first | (simp [lenV]; omega) | simp [lenV]
        · have hM1 : M2 = 1 := by omega
          subst hM1
          clear hM
          obtain ⟨vs, v1, v2, v3, v4⟩ := hS
          obtain ⟨L, rfl⟩ : ∃ L, Ls2 = [L] := by
            match Ls2, hLl with
            | [L], _ => exact ⟨L, rfl⟩
          obtain ⟨u, rfl⟩ : ∃ u, vs = [u] := by
            match vs, v1 with
            | [u], _ => exact ⟨u, rfl⟩
          have hM0 : Marks wr w.heap.size u L := v4 0 (by simp) (by simp)
          have hHd : headP L := hH L (by simp)
          have hLn : L.length ≤ 11 := by simp [lenS] at hL; omega
          obtain ⟨gs, hA, hg1, hg2, hcn, hcm, hc9⟩ := own_at v3 (by simp)
          injection hA with hA
          injection hA with hA
          subst hA
          obtain ⟨f0, f1⟩ := hc9 0 u (by simp)
          have hL0 : 0 < L.length := by obtain ⟨m, t, rfl, -⟩ := hHd; simp
          obtain ⟨Au, cu, rfl, hcu1, hcu2, hcu3, hcu⟩ := hM0.form
          unfold maxLen at hcu2 hcm
          obtain ⟨gu, rfl, hgu1, hgu2, -⟩ := hcu wr (Below.refl _ _) 0 hL0
          obtain ⟨l, hl⟩ : ∃ l, L.length = l := ⟨_, rfl⟩
          have HLl := Lib.hid hl
          rw [hl] at hLn hL0 hcu1 hcu3 hM0
          have HH := Lib.hid hHd
          clear hH hL hLl v4 hc9 hcu hHd v1 v2 v3
          rw [hl] at f0
          clear hl
          go_wp2_with fail
          refine (odd_all n rg m c _ A _ hr (by omega) (by omega)).mono ?_
          rintro e w5 ⟨b, rfl, hr5, hg5, hs5⟩
          have hM5 := hM0.grownR hg5 hrg
          have hG5 := grow_more hG hg5 (fun q hq => .inr hq)
          have hGz5 := hG5.size
          clear hr hM0 hG hg5 hs5 f0 f1
          cases b with
          | false =>
            go_wp2_with fail
            go_ret
            exact ⟨_, L, rfl, hM5, by have := HLl.out; omega, hr5.more (by omega), hG5⟩
          | true =>
            go_wp2_with fail
            refine (pick_any 4 rg m c _ A _ hr5 (by omega) (by omega) (by omega)).mono ?_
            rintro e w6 ⟨x, rfl, x0, x1, hr6, hg6, hs6⟩
            have hM6 := hM5.grownR hg6 hrg
            have hG6 := grow_more hG5 hg6 (fun q hq => .inr hq)
            have hGz6 := hG6.size
            clear hr5 hM5 hG5 hg6 hs6 hGz5
            have hx4 : x = 0 ∨ x = 1 ∨ x = 2 ∨ x = 3 := by omega
            clear x0 x1
            rcases hx4 with rfl | rfl | rfl | rfl
            · have hfin : Marks (w6.alloc (.cells #[] 102)) w.heap.size (.slice (some ⟨w6.heap.size, 0, none⟩) 0 0) [] := ⟨lit_own0 hGz6 (heap_alloc_new _ _), by simp [small]⟩
              go_wp2_with fail
              go_ret
              exact ⟨_, [], rfl, hfin, by simp, (hr6.alloc' _).more (by omega), grow_alloc hG6 _⟩
            · have h6' := (hM6.keep (w' := w6.alloc (.cells #[.int .i64 1, .int .i64 0, .int .i64 0] 102)) (by (repeat (first | (with_reducible assumption) | (with_reducible exact Below.refl _ _) | ((with_reducible refine Below.alloc ?_ ?hsz _); (case hsz => (first | omega | (simp; done) | (simp; omega) | (simp at *; omega)))) | ((with_reducible refine Below.setCell ?_ ?hsz _); (case hsz => (first | omega | (simp; done) | (simp; omega) | (simp at *; omega)))) | (with_reducible refine Below.drew ?_) | (with_reducible refine below_drewN ?_ _) | ((with_reducible refine Below.trans ?_ (Below.mono (by with_reducible assumption) ?hsz)); (case hsz => (first | omega | (simp; done) | (simp; omega) | (simp at *; omega)))))))).1
              rw [HLl.out] at h6'
              have hlit := heap_alloc_new w6 (.cells #[.int .i64 1, .int .i64 0, .int .i64 0] 102)
              go_wp2_with (first
                | (at_builtin
                   go_must (refine wpList_append_src rfl _ _ 56 rfl w.heap.size 102 j0 _ 3 24 Try.underlying56 hj0 hy0 hy1 hy2 rfl (by omega) _ _ l 1 _ [.int .i64 1, .int .i64 0, .int .i64 0] rfl rfl h6' (lit_src hlit rfl (by simp [Value.oneCell'])) (by unfold maxLen; omega) (by omega) (by (first | omega | (simp; done) | (simp; omega) | (simp at *; omega))) ?_)
                   intro r w7 hown7 hg7 hat7))
              have hG7 : w.grownBy w7 (some rg) := grow_more (grow_alloc hG6 _) hg7 (fun q hq => .inl (h6'.lt q hq).1)
              have hR7 := ((hr6.alloc' (.cells #[.int .i64 1, .int .i64 0, .int .i64 0] 102)).low (below_grow hg7 (by (first | omega | (simp; done) | (simp; omega) | (simp at *; omega))) (fun q hq => by have := (h6'.lt q hq).1; omega))).more (K' := K + 200) (by omega)
              have hfin : Marks w7 w.heap.size r (L ++ [⟨1, 0, 0⟩]) := Marks.app (us := [⟨1, 0, 0⟩]) (by simpa [Mk.cells] using hown7) (by simp; exact HLl.out.symm) (by unfold small; omega)
              clear hown7 hg7 hat7
              go_wp2_with fail
              go_ret
              exact ⟨_, _, rfl, hfin, by have := HLl.out; simp; omega, hR7, hG7⟩
            · have h6' := hM6.1
              rw [HLl.out] at h6'
              have hgu6 : gu < w6.heap.size := by have := (h6'.lt gu rfl).2; exact this
              obtain ⟨-, ⟨o0, o1, o2⟩, hof⟩ := own_cells3 (k := 0) h6' (by have := HLl.out; omega)
              have hset := own_set3 (k := 0) h6' (by have := HLl.out; omega) ⟨0, 5, 0⟩
              have hgr := own_grow3 h6' 0 1 2 (.int .i64 0) (.int .i64 5) (.int .i64 0)
              simp only [Nat.zero_mul, Nat.zero_add] at o0 o1 o2 hset
              have hG7 := grow_more hG6 hgr (fun q hq => by have hq' : gu = q := by injection hq
                                                            left; omega)
              have hR7 := (hr6.low (below_grow hgr (by omega) (fun q hq => by have hq' : gu = q := by injection hq
                                                                              omega))).more (K' := K + 200) (by omega)
              have HF := Lib.hid (And.intro hset (And.intro hG7 hR7))
              clear hset hG7 hR7 hgr
              go_wp2_with fail
              go_ret
              have hll := HLl.out
              refine ⟨_, L.set 0 ⟨0, 5, 0⟩, rfl, ⟨?_, by simp [small]; omega⟩, by simp; omega, HF.out.2.2, HF.out.2.1⟩
              have h := HF.out.1
              simp only [List.length_set]
              rw [hll]
              exact h
            · have hl0 : (w6.alloc (.cells #[] 102)).ownsRow w.heap.size 102 3 (.slice (some ⟨w6.heap.size, 0, none⟩) 0 0) 0 [] := lit_own0 hGz6 (heap_alloc_new _ _)
              have hsrc := (hM6.keep (w' := w6.alloc (.cells #[] 102)) (by (repeat (first | (with_reducible assumption) | (with_reducible exact Below.refl _ _) | ((with_reducible refine Below.alloc ?_ ?hsz _); (case hsz => (first | omega | (simp; done) | (simp; omega) | (simp at *; omega)))) | ((with_reducible refine Below.setCell ?_ ?hsz _); (case hsz => (first | omega | (simp; done) | (simp; omega) | (simp at *; omega)))) | (with_reducible refine Below.drew ?_) | (with_reducible refine below_drewN ?_ _) | ((with_reducible refine Below.trans ?_ (Below.mono (by with_reducible assumption) ?hsz)); (case hsz => (first | omega | (simp; done) | (simp; omega) | (simp at *; omega)))))))).src
              rw [HLl.out] at hsrc
              go_wp2_with (first
                | (at_builtin
                   (refine wpList_append_src rfl _ _ 56 rfl w.heap.size 102 j0 _ 3 24 Try.underlying56 hj0 hy0 hy1 hy2 rfl (by omega) _ _ 0 l [] _ rfl rfl hl0 hsrc (by unfold maxLen; omega) (by omega) (by (first | omega | (simp; done) | (simp; omega) | (simp at *; omega))) ?_)
                   intro r w7 hown7 hg7 hat7
                   go_must (rw [Nat.zero_add, List.nil_append] at hown7))
                | (at_builtin
                   go_must (refine wpList_append_src rfl _ _ 56 rfl w.heap.size 102 j0 _ 3 24 Try.underlying56 hj0 hy0 hy1 hy2 rfl (by omega) _ _ l 1 _ [.int .i64 0, .int .i64 1, .int .i64 0] rfl rfl (own_keep hown7 (Nat.le_refl _) (by (repeat (first | (with_reducible assumption) | (with_reducible exact Below.refl _ _) | ((with_reducible refine Below.alloc ?_ ?hsz _); (case hsz => (first | omega | (simp; done) | (simp; omega) | (simp at *; omega)))) | ((with_reducible refine Below.setCell ?_ ?hsz _); (case hsz => (first | omega | (simp; done) | (simp; omega) | (simp at *; omega)))) | (with_reducible refine Below.drew ?_) | (with_reducible refine below_drewN ?_ _) | ((with_reducible refine Below.trans ?_ (Below.mono (by with_reducible assumption) ?hsz)); (case hsz => (first | omega | (simp; done) | (simp; omega) | (simp at *; omega)))))))) (lit_src (heap_alloc_new w7 (.cells #[.int .i64 0, .int .i64 1, .int .i64 0] 102)) rfl (by simp [Value.oneCell'])) (by unfold maxLen; omega) (by omega) (by have := hg7.size; simp at this; (first | omega | (simp; done) | (simp; omega) | (simp at *; omega))) ?_)
                   intro r8 w8 hown8 hg8 hat8))
              have hG7 : w.grownBy w7 (some rg) := grow_more (grow_alloc hG6 _) hg7 (fun q hq => .inl (hl0.lt q hq).1)
              have hR7 := (hr6.alloc' (.cells #[] 102)).low (below_grow hg7 (by (first | omega | (simp; done) | (simp; omega) | (simp at *; omega))) (fun q hq => by have := (hl0.lt q hq).1; omega))
              have hz7 := hG7.size
              have hG8 : w.grownBy w8 (some rg) := grow_more (grow_alloc hG7 _) hg8 (fun q hq => .inl (hown7.lt q hq).1)
              have hR8 := ((hR7.alloc' (.cells #[.int .i64 0, .int .i64 1, .int .i64 0] 102)).low (below_grow hg8 (by (first | omega | (simp; done) | (simp; omega) | (simp at *; omega))) (fun q hq => by have := (hown7.lt q hq).1; omega))).more (K' := K + 200) (by omega)
              have hfin : Marks w8 w.heap.size r8 (L ++ [⟨0, 1, 0⟩]) := Marks.app (us := [⟨0, 1, 0⟩]) (by simpa [Mk.cells] using hown8) (by simp; exact HLl.out.symm) (by unfold small; omega)
              clear hown7 hg7 hat7 hown8 hg8 hat8
              go_wp2_with fail
              go_ret
              exact ⟨_, _, rfl, hfin, by have := HLl.out; simp; omega, hR8, hG8⟩

end Go.Proofs.Ytobbeofibkpbaaa

/- Contracts of the draws of terms. -/
namespace Go.Proofs.Ytobbeofibkpbaaa
open Go.RowKit

/-- what a draw of a row of marks leaves -/
def DrawnMarks (w : World) (e : Ending) (w' : World) : Prop :=
  ∃ (r : Value) (ts : List Mk), e = .returned r ∧ Marks w' w.heap.size r ts ∧ ts.length ≤ 14 ∧ Below w.heap.size w w'

set_option maxHeartbeats 1000000 in
set_option maxRecDepth 20000 in
theorem drawCarriesOf_any (v : Value) (n : Nat) (w : World) (h : ArgBytes w v n) : Calls Try.prog 42 #[v] w (DrawnMarks w) := by
  go_enter Try.func42, Try.ntmps42
  go_wp2_with fail
  refine (l20Open_any v n _ (h.keep (by (repeat (first | (with_reducible assumption) | (with_reducible exact Below.refl _ _) | ((with_reducible refine Below.alloc ?_ ?hsz _); (case hsz => (first | omega | (simp; done) | (simp; omega) | (simp at *; omega)))) | ((with_reducible refine Below.setCell ?_ ?hsz _); (case hsz => (first | omega | (simp; done) | (simp; omega) | (simp at *; omega)))) | (with_reducible refine Below.drew ?_) | (with_reducible refine below_drewN ?_ _) | ((with_reducible refine Below.trans ?_ (Below.mono (by with_reducible assumption) ?hsz)); (case hsz => (first | omega | (simp; done) | (simp; omega) | (simp at *; omega))))))))).mono ?_
  rintro e w1 ⟨A, m, c, rfl, hr1, hb1, hz1⟩
  go_wp2_with fail
  refine (l20Term_any 9 w.heap.size m c 0 A _ hr1 (by omega) (by omega)).mono ?_
  rintro e w2 ⟨r, ts, rfl, hm, hl, hr2, hg2⟩
  go_wp2
  go_ret
  have hs2 := hg2.size
  exact ⟨_, ts, rfl, hm.mono (by omega), hl, hb1.trans (below_grow hg2 (by omega) (fun q hq => by injection hq with hq; omega))⟩

end Go.Proofs.Ytobbeofibkpbaaa
