/- Plain facts. -/
import Derived.Test.YtobbeofibkpbaaaMG
import Derived.Test.YtobbeofibkpbaaaGZ23
import Derived.Test.YtobbeofibkpbaaaGZ39
import Derived.Test.YtobbeofibkpbaaaGZ52
import Derived.Test.YtobbeofibkpbaaaGZ54
import Derived.Deep.DeepCutAuto
import Derived.Lib.SliceRun
/- Plain facts of chapter 5: a further pipe. -/
namespace Go.Proofs.Ytobbeofibkpbaaa
open Go.RowKit

def withB (n : Int) (ps : List Pp) (q : Pp) : Bool := netOkB n (ps ++ [q])
def withN (n : Int) (ps : List Pp) (q : Pp) : Int := if withB n ps q = true then n else 0
def withL (n : Int) (ps : List Pp) (q : Pp) : List Pp := if withB n ps q = true then ps ++ [q] else []
theorem with_yes {n : Int} {ps : List Pp} {q : Pp} (h : withB n ps q = true) : withN n ps q = n ∧ withL n ps q = ps ++ [q] := by simp [withN, withL, h]
theorem with_no {n : Int} {ps : List Pp} {q : Pp} (h : withB n ps q = false) : withN n ps q = 0 ∧ withL n ps q = [] := by simp [withN, withL, h]
end Go.Proofs.Ytobbeofibkpbaaa

/- Contracts of the functions of chapter 5 in the program: WithPipe. -/
namespace Go.Proofs.Ytobbeofibkpbaaa
open Go.RowKit

set_option maxHeartbeats 1000000 in
set_option maxRecDepth 20000 in
theorem clonePipes_any (v : Value) (ps : List Pp) (b : Nat) (w : World) (hp : Pipes w b v ps) (hs : ps.length ≤ 1048576) :
    Calls Try.prog 90 #[v] w fun e w' => ∃ r, e = .returned r ∧ Pipes w' w.heap.size r ps ∧ Below w.heap.size w w' := by
  have hsrc := hp.src
  obtain ⟨i0, hi0, hz0, hz1, hz2⟩ := info_parts pipe_info
  rcases hp.1.2 with ⟨rfl, hn⟩ | ⟨g, cap, cur, rfl, -, -, -, -, -, -⟩
  · have hps : ps = [] := List.eq_nil_of_length_eq_zero hn
    subst hps
    go_enter Try.func90, Try.ntmps90
    have hnil : ∀ W : World, (binOp .eql 23 (.slice none 0 0) (.slice none 0 0)).run Try.prog W = .ok (.bool true) W := fun W => Lib.run_eql_slice_nil W _ _ none 0 0 0 0 Try.underlying23
    go_wp2
    go_ret
    exact ⟨_, rfl, Pipes_nil _ _, by (repeat (first | (with_reducible assumption) | (with_reducible exact Below.refl _ _) | ((with_reducible refine Below.alloc ?_ ?hsz _); (case hsz => (first | omega | (simp; done) | (simp; omega) | (simp at *; omega)))) | ((with_reducible refine Below.setCell ?_ ?hsz _); (case hsz => (first | omega | (simp; done) | (simp; omega) | (simp at *; omega)))) | (with_reducible refine Below.drew ?_) | (with_reducible refine below_drewN ?_ _) | ((with_reducible refine Below.trans ?_ (Below.mono (by with_reducible assumption) ?hsz)); (case hsz => (first | omega | (simp; done) | (simp; omega) | (simp at *; omega))))))⟩
  · have hnil : ∀ W : World, (binOp .eql 23 (.slice (some ⟨g, 0, none⟩) ps.length cap) (.slice none 0 0)).run Try.prog W = .ok (.bool false) W := fun W => Lib.run_eql_slice_some_nil W _ _ _ Try.underlying23
    have hown0 := World.ownsRow_lit (e := 45) (base := w.heap.size) (size := 5) w #[] 0 (Nat.le_refl _) (by simp [maxLen]) rfl
    have hsrc0 : SrcOk (w.alloc (.cells #[] 45)) 5 (.slice (some ⟨g, 0, none⟩) ps.length cap) ps.length (ps.flatMap Pp.cells) := (hp.keep (by (repeat (first | (with_reducible assumption) | (with_reducible exact Below.refl _ _) | ((with_reducible refine Below.alloc ?_ ?hsz _); (case hsz => (first | omega | (simp; done) | (simp; omega) | (simp at *; omega)))) | ((with_reducible refine Below.setCell ?_ ?hsz _); (case hsz => (first | omega | (simp; done) | (simp; omega) | (simp at *; omega)))) | (with_reducible refine Below.drew ?_) | (with_reducible refine below_drewN ?_ _) | ((with_reducible refine Below.trans ?_ (Below.mono (by with_reducible assumption) ?hsz)); (case hsz => (first | omega | (simp; done) | (simp; omega) | (simp at *; omega)))))))).src
    go_enter Try.func90, Try.ntmps90
    go_wp2_with (first
      | (at_builtin
         go_must (refine wpList_append_src rfl _ _ 23 rfl w.heap.size 45 i0 _ 5 40 Try.underlying23 hi0 hz0 hz1 hz2 rfl (by omega) _ _ 0 ps.length [] _ rfl rfl hown0 hsrc0 (by unfold maxLen; omega) (by omega) (by simp) ?_)
         intro r w7 hown7 hgr7 hat7))
    go_ret
    rw [Nat.zero_add, List.nil_append] at hown7
    refine ⟨r, rfl, ⟨hown7, by unfold small; omega⟩, ?_⟩
    exact Below.grown (w := w.alloc (.cells #[] 45)) (by (repeat (first | (with_reducible assumption) | (with_reducible exact Below.refl _ _) | ((with_reducible refine Below.alloc ?_ ?hsz _); (case hsz => (first | omega | (simp; done) | (simp; omega) | (simp at *; omega)))) | ((with_reducible refine Below.setCell ?_ ?hsz _); (case hsz => (first | omega | (simp; done) | (simp; omega) | (simp at *; omega)))) | (with_reducible refine Below.drew ?_) | (with_reducible refine below_drewN ?_ _) | ((with_reducible refine Below.trans ?_ (Below.mono (by with_reducible assumption) ?hsz)); (case hsz => (first | omega | (simp; done) | (simp; omega) | (simp at *; omega))))))) hgr7 (by (first | omega | (simp; done) | (simp; omega) | (simp at *; omega))) (fun q hq => by
      have hq' : w.heap.size = q := by injection hq
      omega)

/-- what the operations of WithPipe's literal yield -/
def wpV (B z : Nat) (n q0 q1 q2 q3 q4 : Int) (ps PS : List Pp) (sv : Value) : Nat → Value → (Nat → Value) → World → Prop
  | 0, x, _, _ => x = .pointer (some ⟨z, 0, none⟩)
  | 1, x, _, _ => x = .int .i64 n
  | 2, x, _, _ => x = .pointer (some ⟨z, 1, none⟩)
  | 3, x, _, _ => x = sv
  | 4, x, _, wx => Pipes wx B x ps
  | 5, x, _, _ => x = .agg #[.int .i64 q0, .int .i64 q1, .int .i64 q2, .int .i64 q3, .int .i64 q4]
  | 6, x, _, wx => ∃ g, x = .slice (some ⟨g, 0, none⟩) 1 1 ∧ wx.heap[g]? = some (.cells #[.int .i64 q0, .int .i64 q1, .int .i64 q2, .int .i64 q3, .int .i64 q4] 45)
  | 7, x, _, wx => Pipes wx B x PS
  | 8, x, _, wx => ∃ s, x = .agg #[.int .i64 n, s] ∧ Pipes wx B s PS
  | 9, x, _, wx => ∃ g x0 x1, x = .pointer (some ⟨g, 0, none⟩) ∧ B ≤ g ∧ wx.heap[g]? = some (.cells #[x0, x1] 25)
  | 10, _, u, wx => ∃ g s, u 9 = .pointer (some ⟨g, 0, none⟩) ∧ B ≤ g ∧ Pipes wx B s PS ∧ wx.heap[g]? = some (.cells #[.int .i64 n, s] 25)
  | _, _, _, _ => True
/-- what an operation may turn -/
def wpR : Nat → World → World → Prop
  | 7, wx, wy => ∃ row, wx.grownBy wy row ∧ ∀ q, row = some q → ∃ cur, wx.heap[q]? = some (.cells cur 45 (0, 0))
  | 10, _, _ => True
  | _, wx, wy => Below wx.heap.size wx wy

set_option maxHeartbeats 4000000 in
set_option maxRecDepth 20000 in
theorem withPipe_any (n : Int) (v : Value) (ps : List Pp) (q : Pp) (b : Nat) (w : World) (hp : Pipes w b v ps) (hs : ps.length ≤ 1048576) :
    Calls Try.prog 40 #[.agg #[.int .i64 n, v], .agg #[.int .i64 q.fr, .int .i64 q.to, .int .i64 q.le, .int .i64 q.mo, .int .i64 q.co]] w fun e w' => ∃ s, e = .returned (.tuple #[.agg #[.int .i64 (withN n ps q), s], .bool (withB n ps q)]) ∧ Pipes w' w.heap.size s (withL n ps q) ∧ Below w.heap.size w w' := by
  have hp0 := hp
  obtain ⟨A, c, rfl, -, -, -, -⟩ := hp.form
  obtain ⟨q0, q1, q2, q3, q4⟩ := q
  obtain ⟨i0, hi0, hz0, hz1, hz2⟩ := info_parts pipe_info
  go_enter Try.func40, Try.ntmps40
  go_wp2_with fail
  obtain ⟨W, hW⟩ : ∃ W, W = (((w.alloc (.cells #[.int .i64 n, .slice A ps.length c] 25)).alloc (.cells #[.int .i64 q0, .int .i64 q1, .int .i64 q2, .int .i64 q3, .int .i64 q4] 45)).alloc (.cells #[.int .i64 0, .slice none 0 0] 25)) := ⟨_, rfl⟩
  have hWz : W.heap.size = w.heap.size + 3 := by rw [hW]; simp
  have hws : w.heap.size < W.heap.size := by omega
  have hBW : Below w.heap.size w W := by rw [hW]; (repeat (first | (with_reducible assumption) | (with_reducible exact Below.refl _ _) | ((with_reducible refine Below.alloc ?_ ?hsz _); (case hsz => (first | omega | (simp; done) | (simp; omega) | (simp at *; omega)))) | ((with_reducible refine Below.setCell ?_ ?hsz _); (case hsz => (first | omega | (simp; done) | (simp; omega) | (simp at *; omega)))) | (with_reducible refine Below.drew ?_) | (with_reducible refine below_drewN ?_ _) | ((with_reducible refine Below.trans ?_ (Below.mono (by with_reducible assumption) ?hsz)); (case hsz => (first | omega | (simp; done) | (simp; omega) | (simp at *; omega))))))
  have d0 : W.cell? ⟨w.heap.size, 0, none⟩ = some (.int .i64 n) := by rw [hW]; go_simp
  have d1 : W.cell? ⟨w.heap.size, 1, none⟩ = some (.slice A ps.length c) := by rw [hW]; go_simp
  have p0 : W.cell? ⟨w.heap.size + 1, 0, none⟩ = some (.int .i64 q0) := by rw [hW]; go_simp
  have p1 : W.cell? ⟨w.heap.size + 1, 1, none⟩ = some (.int .i64 q1) := by rw [hW]; go_simp
  have p2 : W.cell? ⟨w.heap.size + 1, 2, none⟩ = some (.int .i64 q2) := by rw [hW]; go_simp
  have p3 : W.cell? ⟨w.heap.size + 1, 3, none⟩ = some (.int .i64 q3) := by rw [hW]; go_simp
  have p4 : W.cell? ⟨w.heap.size + 1, 4, none⟩ = some (.int .i64 q4) := by rw [hW]; go_simp
  have z0 : W.cell? ⟨w.heap.size + 1 + 1, 0, none⟩ = some (.int .i64 0) := by rw [hW]; go_simp
  have z1 : W.cell? ⟨w.heap.size + 1 + 1, 1, none⟩ = some (.slice none 0 0) := by rw [hW]; go_simp
  have z2 : W.frozen? ⟨w.heap.size + 1 + 1, 0, none⟩ = false := by rw [hW]; go_simp
  have z3 : W.frozen? ⟨w.heap.size + 1 + 1, 1, none⟩ = false := by rw [hW]; go_simp
  obtain ⟨PS, hPS⟩ : ∃ PS : List Pp, PS = ps ++ [⟨q0, q1, q2, q3, q4⟩] := ⟨_, rfl⟩
  have hws1 : w.heap.size + 1 < W.heap.size := by omega
  have hws2 : w.heap.size + 1 + 1 < W.heap.size := by omega
  rw [← hW]
  clear hW hWz
  have HPS := Lib.hid hPS
  clear hPS
  refine wp_region_flow 11 none [(0, 7), (1, 8), (2, 9), (3, 10), (4, 11), (5, 12), (6, 13), (7, 14), (8, 15), (9, 6)]
    (wpV W.heap.size w.heap.size n q0 q1 q2 q3 q4 ps PS (.slice A ps.length c)) wpR (fun _ wx => Below W.heap.size W wx) (by kernel_rfl) (by kernel_rfl) rfl ⟨rfl, rfl, rfl, Nat.le_refl _, fun _ _ => rfl⟩ ?_ ?_ ?_ ?_
  · intro i k hi hk hal x u wx wy hR hV
    have hi' : i < 11 := hi
    have hk' : k < 11 := hk
    have h7 : i = 7 → aliveB _ 7 k = true := fun e => by rw [← e]; exact hal
    have h10 : i = 10 → aliveB _ 10 k = true := fun e => by rw [← e]; exact hal
    have hB : i ≠ 7 → i ≠ 10 → Below wx.heap.size wx wy := fun n7 n10 => by
      unfold wpR at hR
      split at hR
      · exact absurd rfl n7
      · exact absurd rfl n10
      · exact hR
    by_cases n7 : i = 7
    · have h7 := h7 n7
      subst n7
      obtain ⟨row, hg, hrow⟩ := hR
      rcases k with _ | _ | _ | _ | _ | _ | _ | _ | _ | _ | _ | k
      all_goals first | exact hV | (exfalso; revert h7; decide) | (exfalso; omega) | skip
      obtain ⟨g, x0, x1, h1, h2, h3⟩ := hV
      refine ⟨g, x0, x1, h1, h2, heap_grown h3 hg fun e => ?_⟩
      obtain ⟨cur, hc⟩ := hrow g e.symm
      rw [h3] at hc
      injection hc with hc
      injection hc with _ hc _
      exact absurd hc (by decide)
    · by_cases n10 : i = 10
      · have h10 := h10 n10
        subst n10
        rcases k with _ | _ | _ | _ | _ | _ | _ | _ | _ | _ | _ | k
        all_goals first | exact hV | (exfalso; revert h10; decide) | (exfalso; omega)
      · have hb := hB n7 n10
        rcases k with _ | _ | _ | _ | _ | _ | _ | _ | _ | _ | _ | k
        all_goals first | exact hV | (exfalso; omega) | skip
        · exact Pipes.keep hV hb
        · obtain ⟨g, h1, h2⟩ := hV; exact ⟨g, h1, heap_keep h2 hb⟩
        · exact Pipes.keep hV hb
        · obtain ⟨s, h1, h2⟩ := hV; exact ⟨s, h1, h2.keep hb⟩
        · obtain ⟨g, x0, x1, h1, h2, h3⟩ := hV; exact ⟨g, x0, x1, h1, h2, heap_keep h3 hb⟩
        · obtain ⟨g, s, h1, h2, h3, h4⟩ := hV; exact ⟨g, s, h1, h2, h3.keep hb, heap_keep h4 hb⟩
  · intro k hk x u u' wx h hV
    have hk' : k < 11 := hk
    rcases k with _ | _ | _ | _ | _ | _ | _ | _ | _ | _ | _ | k
    all_goals first | exact hV | (exfalso; omega) | skip
    obtain ⟨g, s, h1, h2⟩ := hV
    exact ⟨g, s, by rw [← h 9 (by decide)]; exact h1, h2⟩
  · simp only [eachOp, fillF, List.setIfInBounds_toArray, List.set_cons_succ, List.set_cons_zero]
    refine ⟨?_, ?_, ?_, ?_, ?_, ?_, ?_, ?_, ?_, ?_, ?_, trivial⟩ <;> intro u f wx hC hd <;> (try simp [allV, useOf, Region.binds] at hd) <;> have c0 := (bel_cell hC hws).trans d0 <;> have c1 := (bel_cell hC hws).trans d1
    · go_wp2
      exact ⟨_, rfl, rfl, Below.refl _ _, hC⟩
    · have h0 : u 0 = .pointer (some ⟨w.heap.size, 0, none⟩) := hd
      rw [h0]
      go_wp2
      exact ⟨_, rfl, rfl, Below.refl _ _, hC⟩
    · go_wp2
      exact ⟨_, rfl, rfl, Below.refl _ _, hC⟩
    · have h2 : u 2 = .pointer (some ⟨w.heap.size, 1, none⟩) := hd
      rw [h2]
      go_wp2
      exact ⟨_, rfl, rfl, Below.refl _ _, hC⟩
    · have h3 : u 3 = .slice A ps.length c := hd
      rw [h3]
      go_wp2_with fail
      refine (clonePipes_any _ ps b _ (hp0.keep (hBW.trans (hC.mono (Nat.le_of_lt hws)))) hs).mono ?_
      rintro e w4 ⟨r, rfl, hr, hb4⟩
      go_wp2
      exact ⟨r, rfl, hr.mono hC.size, hb4, hC.trans (hb4.mono hC.size)⟩
    · have e0 := (bel_cell hC hws1).trans p0
      have e1 := (bel_cell hC hws1).trans p1
      have e2 := (bel_cell hC hws1).trans p2
      have e3 := (bel_cell hC hws1).trans p3
      have e4 := (bel_cell hC hws1).trans p4
      go_wp2
      exact ⟨_, rfl, rfl, Below.refl _ _, hC⟩
    · have h5 : u 5 = .agg #[.int .i64 q0, .int .i64 q1, .int .i64 q2, .int .i64 q3, .int .i64 q4] := hd
      rw [h5]
      go_wp2
      exact ⟨_, rfl, ⟨_, rfl, heap_alloc_new _ _⟩, (Below.refl _ _).alloc (Nat.le_refl _) _, hC.alloc hC.size _⟩
    · obtain ⟨hd4, hd6⟩ := hd
      obtain ⟨g, h6, hh6⟩ : ∃ g, u 6 = .slice (some ⟨g, 0, none⟩) 1 1 ∧ wx.heap[g]? = some (.cells #[.int .i64 q0, .int .i64 q1, .int .i64 q2, .int .i64 q3, .int .i64 q4] 45) := hd6
      have h4 : Pipes wx W.heap.size (u 4) ps := hd4
      refine wpList_append_src rfl (.tmp 11) (.tmp 13) 23 rfl W.heap.size 45 i0 _ 5 40 Try.underlying23 hi0 hz0 hz1 hz2 rfl (by omega) (u 4) (u 6) ps.length 1 _ _ rfl rfl h4.1 (by rw [h6]; exact lit_src hh6 rfl (by simp [Value.oneCell'])) (by unfold maxLen; omega) (by omega) hC.size ?_
      intro r w7 hown7 hg7 hat7
      refine wpList_nil ⟨r, rfl, (by rw [HPS.out]; exact pipes_snoc hown7 (by unfold small; omega)), ⟨_, hg7, fun q hq => ?_⟩, Below.grown hC hg7 hC.size (fun q hq => (h4.1.lt q hq).1)⟩
      rcases h4.1.2 with ⟨e, -⟩ | ⟨g1, c1, cur1, e, -, hh1, -⟩
      · rw [e] at hq; cases hq
      · rw [e] at hq
        have hq : g1 = q := by injection hq
        subst hq
        exact ⟨_, hh1⟩
    · obtain ⟨hd1, hd7⟩ := hd
      have h1 : u 1 = .int .i64 n := hd1
      have h7 : Pipes wx W.heap.size (u 7) PS := hd7
      obtain ⟨A7, c7, e7, -⟩ := h7.form
      rw [h1, e7]
      rw [e7] at h7
      go_wp2
      exact ⟨_, rfl, ⟨_, rfl, h7⟩, Below.refl _ _, hC⟩
    · go_wp2
      exact ⟨_, rfl, ⟨_, _, _, rfl, hC.size, heap_alloc_new _ _⟩, (Below.refl _ _).alloc (Nat.le_refl _) _, hC.alloc hC.size _⟩
    · obtain ⟨hd9, hd8⟩ := hd
      obtain ⟨g, x0, x1, h9, hg9, hh9⟩ : ∃ g x0 x1, u 9 = .pointer (some ⟨g, 0, none⟩) ∧ W.heap.size ≤ g ∧ wx.heap[g]? = some (.cells #[x0, x1] 25) := hd9
      obtain ⟨s, h8, hs8⟩ : ∃ s, u 8 = .agg #[.int .i64 n, s] ∧ Pipes wx W.heap.size s PS := hd8
      obtain ⟨A8, c8, rfl, -⟩ := hs8.form
      have e0 := heap_cell (j := 0) hh9 rfl
      have e1 := heap_cell (j := 1) hh9 rfl
      have f0 := heap_frozen (j := 0) hh9
      have f1 := heap_frozen (j := 1) hh9
      have hgl := heap_lt hh9
      rw [h8]
      have hR : wpR 10 wx ((wx.setCell ⟨g, 0, none⟩ (.int .i64 n)).setCell ⟨g, 1, none⟩ (.slice A8 PS.length c8)) := trivial
      have hg1 := grown_set wx g 0 (.int .i64 n)
      have hg2 := grown_set (wx.setCell ⟨g, 0, none⟩ (.int .i64 n)) g 1 (.slice A8 PS.length c8)
      have hh1 := heap_set (j := 0) (.int .i64 n) hh9
      have hh2 := heap_set (j := 1) (.slice A8 PS.length c8) hh1
      have hp1 : Pipes _ _ _ _ := ⟨own_type hs8.1 hg1 hh9 (by decide), hs8.2⟩
      have hp2 : Pipes _ _ _ _ := ⟨own_type hp1.1 hg2 hh1 (by decide), hs8.2⟩
      have hF := Lib.hid (And.intro hg1 (And.intro hg2 (And.intro hh2 hp2)))
      clear hg1 hg2 hh1 hh2 hp1 hp2 hs8
      go_wp2_with fail
      exact ⟨undef, rfl, ⟨g, _, h9, hg9, hF.out.2.2.2, hF.out.2.2.1⟩, hR, (by (repeat (first | (with_reducible assumption) | (with_reducible exact Below.refl _ _) | ((with_reducible refine Below.alloc ?_ ?hsz _); (case hsz => (first | omega | (simp; done) | (simp; omega) | (simp at *; omega)))) | ((with_reducible refine Below.setCell ?_ ?hsz _); (case hsz => (first | omega | (simp; done) | (simp; omega) | (simp at *; omega)))) | (with_reducible refine Below.drew ?_) | (with_reducible refine below_drewN ?_ _) | ((with_reducible refine Below.trans ?_ (Below.mono (by with_reducible assumption) ?hsz)); (case hsz => (first | omega | (simp; done) | (simp; omega) | (simp at *; omega)))))) : Below W.heap.size W _)⟩
  · intro u f wx hC hfin
    obtain ⟨g, s, h9, hg9, hs9, hh9⟩ : ∃ g s, u 9 = .pointer (some ⟨g, 0, none⟩) ∧ W.heap.size ≤ g ∧ Pipes wx W.heap.size s PS ∧ wx.heap[g]? = some (.cells #[.int .i64 n, s] 25) := hfin 10 (by decide) (by decide)
    simp only [fillEnd, fillF, Act.put, List.setIfInBounds_toArray, List.set_cons_succ, List.set_cons_zero]
    obtain ⟨A9, c9, rfl, -⟩ := hs9.form
    have e0 := heap_cell (j := 0) hh9 rfl
    have e1 := heap_cell (j := 1) hh9 rfl
    have hgl := heap_lt hh9
    have hzz := hC.size
    have y0 := (bel_cell hC hws2).trans z0
    have y1 := (bel_cell hC hws2).trans z1
    have y2 := (hC.frozen (p := ⟨w.heap.size + 1 + 1, 0, none⟩) hws2).trans z2
    have y3 := (hC.frozen (p := ⟨w.heap.size + 1 + 1, 1, none⟩) hws2).trans z3
    have hBx := hBW.trans (hC.mono (Nat.le_of_lt hws))
    have hlt := hs9.1.lt
    rw [h9]
    go_wp2_with fail
    refine (netOk_any n _ PS W.heap.size wx hs9).mono ?_
    rintro e w6 ⟨rfl, hb6⟩
    have hp6 := hs9.keep hb6
    have hb6z := hb6.size
    have x0 := (bel_cell hb6 hgl).trans e0
    have x1 := (bel_cell hb6 hgl).trans e1
    have v0 := (bel_cell hb6 (show w.heap.size + 1 + 1 < wx.heap.size by omega)).trans y0
    have v1 := (bel_cell hb6 (show w.heap.size + 1 + 1 < wx.heap.size by omega)).trans y1
    have v2 := (hb6.frozen (p := ⟨w.heap.size + 1 + 1, 0, none⟩) (show w.heap.size + 1 + 1 < wx.heap.size by omega)).trans y2
    have v3 := (hb6.frozen (p := ⟨w.heap.size + 1 + 1, 1, none⟩) (show w.heap.size + 1 + 1 < wx.heap.size by omega)).trans y3
    have hl2 : w.heap.size + 1 + 1 < w6.heap.size := by omega
    have hgl6 : g < w6.heap.size := by omega
    have hB6 : Below w.heap.size w w6 := hBx.trans (hb6.mono (by omega))
    have hne : g ≠ w.heap.size + 1 + 1 := by omega
    clear e0 e1 y0 y1 y2 y3 hb6 hBx z0 z1 z2 z3 p0 p1 p2 p3 p4 d0 d1 hh9 hs9
    by_cases hb : netOkB n PS = true
    · have Hw : Hid (withB n ps ⟨q0, q1, q2, q3, q4⟩ = true) := Lib.hid (by rw [withB, ← HPS.out]; exact hb)
      rw [hb]
      go_wp2_with fail
      refine bodyPost_ret (v := .tuple #[.agg #[.int .i64 n, .slice A9 PS.length c9], .bool true]) (by simp [results, Try.results40, go_sem, v0, v1]) rfl ⟨_, by rw [(with_yes Hw.out).1, Hw.out], ?_, by (repeat (first | (with_reducible assumption) | (with_reducible exact Below.refl _ _) | ((with_reducible refine Below.alloc ?_ ?hsz _); (case hsz => (first | omega | (simp; done) | (simp; omega) | (simp at *; omega)))) | ((with_reducible refine Below.setCell ?_ ?hsz _); (case hsz => (first | omega | (simp; done) | (simp; omega) | (simp at *; omega)))) | (with_reducible refine Below.drew ?_) | (with_reducible refine below_drewN ?_ _) | ((with_reducible refine Below.trans ?_ (Below.mono (by with_reducible assumption) ?hsz)); (case hsz => (first | omega | (simp; done) | (simp; omega) | (simp at *; omega))))))⟩
      rw [(with_yes Hw.out).2, ← HPS.out]
      exact ((hp6.setLow hws2).setLow hws2).mono (Nat.le_of_lt hws)
    · have hb' : netOkB n PS = false := by simpa using hb
      have Hw : Hid (withB n ps ⟨q0, q1, q2, q3, q4⟩ = false) := Lib.hid (by rw [withB, ← HPS.out]; exact hb')
      rw [hb']
      go_wp2_with fail
      refine bodyPost_ret (v := .tuple #[.agg #[.int .i64 0, .slice none 0 0], .bool false]) (by simp [results, Try.results40, go_sem, v0, v1]) rfl ⟨_, by rw [(with_no Hw.out).1, Hw.out], ?_, by (repeat (first | (with_reducible assumption) | (with_reducible exact Below.refl _ _) | ((with_reducible refine Below.alloc ?_ ?hsz _); (case hsz => (first | omega | (simp; done) | (simp; omega) | (simp at *; omega)))) | ((with_reducible refine Below.setCell ?_ ?hsz _); (case hsz => (first | omega | (simp; done) | (simp; omega) | (simp at *; omega)))) | (with_reducible refine Below.drew ?_) | (with_reducible refine below_drewN ?_ _) | ((with_reducible refine Below.trans ?_ (Below.mono (by with_reducible assumption) ?hsz)); (case hsz => (first | omega | (simp; done) | (simp; omega) | (simp at *; omega))))))⟩
      rw [(with_no Hw.out).2]
      exact Pipes_nil _ _

end Go.Proofs.Ytobbeofibkpbaaa
