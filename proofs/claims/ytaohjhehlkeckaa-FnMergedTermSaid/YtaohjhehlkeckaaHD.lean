/- Plain facts. -/
import Derived.Test.YtaohjhehlkeckaaA2
import Derived.Test.YtaohjhehlkeckaaGA
import Derived.Test.YtaohjhehlkeckaaAR
import Derived.Test.YtaohjhehlkeckaaD4
import Derived.Test.YtaohjhehlkeckaaD5
import Derived.Test.YtaohjhehlkeckaaD6
/- Parts of a term as they are drawn: a row of rows of marks, each with a pipe first. -/
namespace Go.Proofs.Ytaohjhehlkeckaa
open Go.ChangeShapes Go.WideShapes Go.ChangeAt Go.RowKit Go.Deep Go.Joins

theorem lit_own0 {w : World} {B g : Nat} {e size : Nat} (hb : B ≤ g) (h : w.heap[g]? = some (.cells #[] e (0, 0))) : w.ownsRow B e size (.slice (some ⟨g, 0, none⟩) 0 0) 0 [] :=
  ⟨by simp, .inr ⟨g, 0, #[], rfl, hb, h, Nat.le_refl _, by simp [maxLen], by simp, by simp⟩⟩
theorem marks_one {ts : List Mk} : ∀ u ∈ ts.flatMap Mk.cells, u.oneCell' = true := by
  intro u hu
  obtain ⟨m, -, hm⟩ := List.mem_flatMap.1 hu
  simp [Mk.cells] at hm
  rcases hm with rfl | rfl | rfl <;> rfl
theorem Marks.src {w : World} {b : Nat} {v : Value} {ts : List Mk} (h : Marks w b v ts) : SrcOk w 3 v ts.length (ts.flatMap Mk.cells) := own_src h.1 marks_one
theorem Marks.app {w : World} {b n : Nat} {v : Value} {ts us : List Mk} (h : w.ownsRow b 33 3 v n (ts.flatMap Mk.cells ++ us.flatMap Mk.cells)) (hn : n = ts.length + us.length) (hs : n ≤ small) : Marks w b v (ts ++ us) := by
  have e : (ts ++ us).length = n := by simp; omega
  exact ⟨by rw [e, List.flatMap_append]; exact h, by rw [e]; exact hs⟩
theorem marks_info2 : (Try.prog.info? 23).map (fun i => (i.zero, i.size, i.bytes)) = some (some (.slice none 0 0), 1, 24) := by kernel_rfl

/- a row whose headers lie in a block of their own type is not touched by an append to the headers -/
theorem Marks.oth {w w' : World} {b b2 n : Nat} {v u : Value} {xs : List Mk} {vs : List Value} (h : Marks w b v xs) (ho : w.ownsRow b2 23 1 u n vs) (hg : w.grownBy w' u.ownBlock) : Marks w' b v xs := by
  refine ⟨h.1.kept hg ?_, h.2⟩
  rcases h.1.2 with ⟨h0, -⟩ | ⟨g1, c1, cur1, h0, -, hh, -⟩
  · left; rw [h0]; rfl
  · right
    rcases ho.2 with ⟨h2, -⟩ | ⟨g2, c2, cur2, h2, -, hh2, -⟩
    · rw [h0, h2]; intro e; cases e
    · rw [h0, h2]
      intro e
      have e : g1 = g2 := by injection e
      subst e
      rw [hh] at hh2
      injection hh2 with e2
      injection e2 with _ e3 _
      exact absurd e3 (by decide)

/-- rows of marks, their headers in a row of its own -/
def StkM (w : World) (b : Nat) (v : Value) (n : Nat) (Ls : List (List Mk)) : Prop :=
  ∃ vs : List Value, vs.length = Ls.length ∧ Ls.length = n ∧ w.ownsRow b 23 1 v n vs ∧ ∀ k (h : k < Ls.length) (h' : k < vs.length), Marks w b vs[k] Ls[k]
theorem StkM.keep {w w' : World} {b n : Nat} {v : Value} {Ls : List (List Mk)} (h : StkM w b v n Ls) (hb : Below w.heap.size w w') : StkM w' b v n Ls := by
  obtain ⟨vs, h1, h2, h3, h4⟩ := h
  exact ⟨vs, h1, h2, own_keep h3 (Nat.le_refl _) hb, fun k hk hk' => (h4 k hk hk').keep hb⟩

/- each part begins with a pipe -/
def headP (L : List Mk) : Prop := ∃ m t, L = m :: t ∧ m.k = 0
def headsP (Ls : List (List Mk)) : Prop := ∀ L ∈ Ls, headP L
def lenS (Ls : List (List Mk)) : Nat := (Ls.map List.length).sum
theorem headP.app {L : List Mk} (h : headP L) (M : List Mk) : headP (L ++ M) := by
  obtain ⟨m, t, rfl, hm⟩ := h
  exact ⟨m, t ++ M, rfl, hm⟩
theorem lenS_append (As Bs : List (List Mk)) : lenS (As ++ Bs) = lenS As + lenS Bs := by simp [lenS]
theorem headsP.append {As Bs : List (List Mk)} (h : headsP As) (h' : headsP Bs) : headsP (As ++ Bs) := fun L hL => (List.mem_append.1 hL).elim (h L) (h' L)

/- what a join makes of the parts -/
def joinM (Ls : List (List Mk)) (k : Nat) (kd : Int) : List (List Mk) :=
  Ls.take k ++ [Ls.getD k [] ++ Ls.getD (k + 1) [] ++ [⟨kd, 0, 0⟩]] ++ Ls.drop (k + 2)
theorem join_parts {Ls : List (List Mk)} {k : Nat} (hk : k + 1 < Ls.length) : Ls = Ls.take k ++ (Ls.getD k [] :: Ls.getD (k + 1) [] :: Ls.drop (k + 2)) := by
  have h1 : Ls.drop k = Ls.getD k [] :: Ls.drop (k + 1) := by
    rw [List.drop_eq_getElem_cons (by omega : k < Ls.length)]
    simp [List.getD_eq_getElem?_getD, List.getElem?_eq_getElem (by omega : k < Ls.length)]
  have h2 : Ls.drop (k + 1) = Ls.getD (k + 1) [] :: Ls.drop (k + 2) := by
    rw [List.drop_eq_getElem_cons hk]
    simp [List.getD_eq_getElem?_getD, List.getElem?_eq_getElem hk]
  rw [← h2, ← h1, List.take_append_drop]
theorem join_len {Ls : List (List Mk)} {k : Nat} {kd : Int} (hk : k + 1 < Ls.length) : (joinM Ls k kd).length + 1 = Ls.length := by
  simp [joinM]; omega
theorem join_lenS {Ls : List (List Mk)} {k : Nat} {kd : Int} (hk : k + 1 < Ls.length) : lenS (joinM Ls k kd) = lenS Ls + 1 := by
  have h := congrArg lenS (join_parts hk)
  rw [lenS_append] at h
  rw [h, joinM, lenS_append, lenS_append]
  simp [lenS]
  omega
theorem join_heads {Ls : List (List Mk)} {k : Nat} {kd : Int} (hk : k + 1 < Ls.length) (h : headsP Ls) : headsP (joinM Ls k kd) := by
  have hp := join_parts hk
  rw [hp] at h
  intro L hL
  simp only [joinM, List.mem_append, List.mem_singleton] at hL
  rcases hL with (hL | rfl) | hL
  · exact h L (by simp [hL])
  · rw [List.append_assoc]
    exact (h (Ls.getD k []) (by simp)).app _
  · exact h L (by simp [hL])
theorem len_le {Ls : List (List Mk)} {L : List Mk} (h : L ∈ Ls) : L.length ≤ lenS Ls := by
  induction Ls with
  | nil => cases h
  | cons M Ls ih =>
    rcases List.mem_cons.1 h with rfl | h
    · simp [lenS]
    · have := ih h; simp [lenS] at *; omega

theorem StkM.snoc {w w7 : World} {b n : Nat} {v u row : Value} {Ls : List (List Mk)} {L : List Mk} (vs : List Value) (h1 : vs.length = Ls.length) (h2 : Ls.length = n) (h3 : w.ownsRow b 23 1 v n vs)
    (h4 : ∀ k (h : k < Ls.length) (h' : k < vs.length), Marks w b vs[k] Ls[k]) (hr : Marks w b row L) (hg : w.grownBy w7 v.ownBlock) (ho : w7.ownsRow b 23 1 u (n + 1) (vs ++ [row])) : StkM w7 b u (n + 1) (Ls ++ [L]) := by
  refine ⟨_, by simp [h1], by simp [h2], ho, fun k hk hk' => ?_⟩
  by_cases hlt : k < Ls.length
  · have e1 : (vs ++ [row])[k] = vs[k]'(by omega) := List.getElem_append_left (by omega)
    have e2 : (Ls ++ [L])[k] = Ls[k] := List.getElem_append_left hlt
    rw [e1, e2]
    exact (h4 k hlt (by omega)).oth h3 hg
  · have hkl : k = Ls.length := by simp at hk; omega
    subst hkl
    have e1 : (vs ++ [row])[Ls.length] = row := by simp [← h1]
    have e2 : (Ls ++ [L])[Ls.length] = L := by simp
    rw [e1, e2]
    exact hr.oth h3 hg
/-- an append of many headers -/
theorem StkM.more {w w7 : World} {b n m : Nat} {v u : Value} {Ls Ms : List (List Mk)} (vs us : List Value) (h1 : vs.length = Ls.length) (h2 : Ls.length = n) (h3 : w.ownsRow b 23 1 v n vs)
    (h4 : ∀ k (h : k < Ls.length) (h' : k < vs.length), Marks w b vs[k] Ls[k]) (g1 : us.length = Ms.length) (g2 : Ms.length = m) (g4 : ∀ k (h : k < Ms.length) (h' : k < us.length), Marks w b us[k] Ms[k])
    (hg : w.grownBy w7 v.ownBlock) (ho : w7.ownsRow b 23 1 u (n + m) (vs ++ us)) : StkM w7 b u (n + m) (Ls ++ Ms) := by
  refine ⟨_, by simp [h1, g1], by simp [h2, g2], ho, fun k hk hk' => ?_⟩
  by_cases hlt : k < Ls.length
  · have e1 : (vs ++ us)[k] = vs[k]'(by omega) := List.getElem_append_left (by omega)
    have e2 : (Ls ++ Ms)[k] = Ls[k] := List.getElem_append_left hlt
    rw [e1, e2]
    exact (h4 k hlt (by omega)).oth h3 hg
  · have hk2 : k - Ls.length < Ms.length := by simp at hk; omega
    have e1 : (vs ++ us)[k] = us[k - Ls.length]'(by omega) := by
      rw [List.getElem_append_right (by omega)]
      simp [h1]
    have e2 : (Ls ++ Ms)[k] = Ms[k - Ls.length] := List.getElem_append_right (by omega)
    rw [e1, e2]
    exact (g4 _ hk2 (by omega)).oth h3 hg
/-- the first cell of a part is its first mark's kind -/
theorem head_cell {w : World} {b : Nat} {v : Value} {L : List Mk} (h : Marks w b v L) (hp : headP L) : ∀ q, v.ownBlock = some q → w.cell? ⟨q, 0, none⟩ = some (.int .i64 0) := by
  intro q hq
  obtain ⟨m, t, rfl, hm⟩ := hp
  obtain ⟨A, c, rfl, -, -, -, hc⟩ := h.form
  obtain ⟨g, hA, -, -, c0, -, -⟩ := hc w (Below.refl _ _) 0 (by simp)
  subst hA
  have e : g = q := by injection hq
  subst e
  simpa [hm] using c0

theorem Marks.grownR {w w' : World} {b rg : Nat} {v : Value} {ts : List Mk} (h : Marks w b v ts) (hg : w.grownBy w' (some rg)) (hr : rg < b) : Marks w' b v ts := by
  refine ⟨h.1.kept hg ?_, h.2⟩
  rcases h.1.2 with ⟨h0, -⟩ | ⟨g1, c1, cur1, h0, hb, hh, -⟩
  · left; rw [h0]; rfl
  · right
    rw [h0]
    intro e
    have e : g1 = rg := by injection e
    omega
theorem StkM.grownR {w w' : World} {b rg n : Nat} {v : Value} {Ls : List (List Mk)} (h : StkM w b v n Ls) (hg : w.grownBy w' (some rg)) (hr : rg < b) : StkM w' b v n Ls := by
  obtain ⟨vs, h1, h2, h3, h4⟩ := h
  refine ⟨vs, h1, h2, h3.kept hg ?_, fun k hk hk' => (h4 k hk hk').grownR hg hr⟩
  rcases h3.2 with ⟨h0, -⟩ | ⟨g1, c1, cur1, h0, hb, hh, -⟩
  · left; rw [h0]; rfl
  · right
    rw [h0]
    intro e
    have e : g1 = rg := by injection e
    omega
theorem StkM.form {w : World} {b n : Nat} {v : Value} {Ls : List (List Mk)} (h : StkM w b v n Ls) (hn : 0 < n) :
    ∃ g c, v = .slice (some ⟨g, 0, none⟩) n c ∧ n ≤ c ∧ c ≤ 2 ^ 63 - 1 ∧ b ≤ g ∧ g < w.heap.size ∧ ∀ k (hk : k < Ls.length), ∃ s, Marks w b s Ls[k] ∧ w.frozen? ⟨g, k, none⟩ = false ∧ ∀ wr, Below w.heap.size w wr → wr.cell? ⟨g, k, none⟩ = some s := by
  obtain ⟨vs, h1, h2, h3, h4⟩ := h
  obtain ⟨A, c, rfl, c1, c2, -⟩ := own_form h3
  obtain ⟨g, rfl, hg, hg2, -, -, hc⟩ := own_at h3 (by omega)
  refine ⟨g, c, rfl, c1, by unfold maxLen at c2; omega, hg, hg2, fun k hk => ⟨vs[k]'(by omega), h4 k hk (by omega), (hc k _ (List.getElem?_eq_getElem (by omega))).2, fun wr hb => (hb.cell (p := ⟨g, k, none⟩) hg2).trans (hc k _ (List.getElem?_eq_getElem (by omega))).1⟩⟩

theorem heads_one {w : World} {b : Nat} {vs : List Value} {Ls : List (List Mk)} (h1 : vs.length = Ls.length) (h4 : ∀ k (h : k < Ls.length) (h' : k < vs.length), Marks w b vs[k] Ls[k]) : ∀ u ∈ vs, u.oneCell' = true := by
  intro u hu
  obtain ⟨k, hk, rfl⟩ := List.getElem_of_mem hu
  obtain ⟨A, c, hv, -⟩ := (h4 k (by omega) hk).form
  rw [hv]; rfl
theorem part_src {w w' : World} {b g n c k : Nat} {e : TypeId} {vs : List Value} (h : w.ownsRow b e 1 (.slice (some ⟨g, 0, none⟩) n c) n vs) (hb : Below w.heap.size w w') (hn : 0 < n) (hk : k ≤ n) (h1 : ∀ u ∈ vs, u.oneCell' = true) (c' : Nat) :
    SrcOk w' 1 (.slice (some ⟨g, k, none⟩) (n - k) c') (n - k) (vs.drop k) := by
  have hl := h.1
  obtain ⟨g', hA, -, hg2, -, -, hc⟩ := own_at h (by omega)
  injection hA with hA
  injection hA with hA
  subst hA
  refine .inr ⟨⟨g, k, none⟩, c', rfl, by simp; omega, fun j u hj => ?_, fun u hu => h1 u (List.mem_of_mem_drop hu)⟩
  rw [add_nat]
  refine (hb.cell (p := ⟨g, k + j, none⟩) hg2).trans (hc (k + j) u ?_).1
  rw [List.getElem?_drop] at hj
  exact hj

end Go.Proofs.Ytaohjhehlkeckaa

/- Contract of l20Term: a row of marks, each part of it with a pipe first (chapter 8's draws). -/
namespace Go.Proofs.Ytaohjhehlkeckaa
open Go.RowKit

/-- what the operations yield -/
def tmV (B gp k : Nat) (pv s1 s2 : Value) (kd : Int) (L1 L2 : List Mk) : Nat → Value → World → Prop
  | 0, x, w => ∃ g : Nat, x = .slice (some ⟨g, 0, none⟩) 0 0 ∧ B ≤ g ∧ w.heap[g]? = some (.cells #[] 33 (0, 0))
  | 1, x, _ => x = pv
  | 2, x, _ => x = .int .i64 (k : Int)
  | 3, x, _ => x = .pointer (some ⟨gp, k, none⟩)
  | 4, x, _ => x = s1
  | 5, x, w => Marks w B x L1
  | 6, x, _ => x = pv
  | 7, x, _ => x = .int .i64 (k : Int)
  | 8, x, _ => x = .int .i64 ((k : Int) + 1)
  | 9, x, _ => x = .pointer (some ⟨gp, k + 1, none⟩)
  | 10, x, _ => x = s2
  | 11, x, w => Marks w B x (L1 ++ L2)
  | 12, x, _ => x = .int .i64 kd
  | 13, x, _ => x = .agg #[.int .i64 kd, .int .i64 0, .int .i64 0]
  | 14, x, w => ∃ g : Nat, x = .slice (some ⟨g, 0, none⟩) 1 1 ∧ w.heap[g]? = some (.cells #[.int .i64 kd, .int .i64 0, .int .i64 0] 33)
  | 15, x, w => Marks w B x (L1 ++ L2 ++ [⟨kd, 0, 0⟩])
  | 16, x, w => Marks w B x (L1 ++ L2 ++ [⟨kd, 0, 0⟩])
  | _, _, _ => True
def lenV : Value → Nat
  | .slice _ n _ => n
  | _ => 0
def tmR : Nat → World → World → Prop
  | 5, w, w' => ∃ row, w.grownBy w' row ∧ ∀ q, row = some q → ∃ t fr, w.heap[q]? = some (.cells #[] t fr)
  | 11, w, w' => ∃ row, w.grownBy w' row ∧ ∀ q, row = some q → w.cell? ⟨q, 0, none⟩ = some (.int .i64 0)
  | 15, _, _ => True
  | _, w, w' => Below w.heap.size w w'

set_option maxHeartbeats 1000000 in
set_option maxRecDepth 20000 in
theorem odd_all (n : Nat) (rg m c K : Nat) (A : Option Addr) (w : World) (h : Rd w rg A m c K) (hK : K ≤ 100000) (h2 : n ≤ 1000) :
    Calls Try.prog 70 #[.pointer (some ⟨rg, 0, none⟩), .int .i64 (n : Int)] w fun e w' => ∃ b : Bool, e = .returned (.bool b) ∧ Rd w' rg A m c (K + 1) ∧ w.grownBy w' (some rg) ∧ w'.heap.size = w.heap.size := by
  by_cases h1 : 1 ≤ n
  · exact odd_any n rg m c K A w h hK (by omega) (by omega)
  · have h0 : n = 0 := by omega
    subst h0
    go_enter Try.func70, Try.ntmps70
    go_wp2_with fail
    go_ret
    exact ⟨_, rfl, h.more (by omega), grow_refl w _, rfl⟩

set_option maxRecDepth 20000 in
set_option maxHeartbeats 16000000 in
set_option maxRecDepth 20000 in
theorem l20Term_any (n rg m c K : Nat) (A : Option Addr) (w : World) (h : Rd w rg A m c K) (hK : K ≤ 40000) (hn2 : n ≤ 1000) :
    Calls Try.prog 37 #[.pointer (some ⟨rg, 0, none⟩), .int .i64 (n : Int)] w fun e w' => ∃ r ts, e = .returned r ∧ Marks w' w.heap.size r ts ∧ ts.length ≤ 14 ∧ Rd w' rg A m c (K + 200) ∧ w.grownBy w' (some rg) := by
  have hrg := h.1
  obtain ⟨j0, hj0, hy0, hy1, hy2⟩ := info_parts mark_info
  obtain ⟨q0, hq0, hq1, hq2, hq3⟩ := info_parts marks_info2
  have h0 := h.alloc' (.cells #[] 23)
  have hS0 : StkM (w.alloc (.cells #[] 23)) w.heap.size (.slice (some ⟨w.heap.size, 0, none⟩) 0 0) 0 [] := ⟨[], rfl, rfl, lit_own0 (Nat.le_refl _) (heap_alloc_new _ _), fun k hk => absurd hk (by simp)⟩
  have hG0 : w.grownBy (w.alloc (.cells #[] 23)) (some rg) := grow_alloc (grow_refl w _) _
  clear h
  go_enter Try.func37, Try.ntmps37
  go_wp2_with fail
  refine (pick_any 6 rg m c K A _ h0 (by omega) (by omega) (by omega)).mono ?_
  rintro e w2 ⟨x, rfl, x0, x1, hr2, hg2, hs2⟩
  have hS2 := hS0.grownR hg2 hrg
  have hG2 := grow_more hG0 hg2 (fun q hq => .inr hq)
  clear h0 hS0 hG0 hg2 hs2
  obtain ⟨X, rfl⟩ : ∃ X : Nat, x = (X : Int) := ⟨x.toNat, by omega⟩
  go_wp2_with fail
  go_loopw [5, 6] (fun a b wr => ∃ (k M g cp : Nat) (Ls : List (List Mk)), a = .slice (some ⟨g, 0, none⟩) M cp ∧ b = .int .i64 (k : Int) ∧ M + k = X + 1 ∧ StkM wr w.heap.size (.slice (some ⟨g, 0, none⟩) M cp) M Ls ∧ headsP Ls ∧ lenS Ls = M ∧ Rd wr rg A m c (K + 2 + 2 * M) ∧ w.grownBy wr (some rg)) (fun _ b _ => (intOf b).toNat)
  case atStart => exact ⟨X + 1, 0, w.heap.size, 0, [], rfl, by first | rfl | exact congrArg (Value.int .i64) (by omega), by omega, hS2, (fun L hL => by cases hL), rfl, hr2.more (by omega), hG2⟩
  case round =>
    obtain ⟨k, M, g, cp, Ls, rfl, rfl, hMk, hS, hH, hL, hr, hG⟩ := hrel
    clear hS2 hG2 hr2
    have hGz := hG.size
    by_cases hk : 0 < k
    · go_wp2_with fail
      refine (pick_any 5 rg m c _ A _ hr (by omega) (by omega) (by omega)).mono ?_
      rintro e w3 ⟨y, rfl, y0, y1, hr3, hg3, hs3⟩
      have hS3 := hS.grownR hg3 hrg
      have hG3 := grow_more hG hg3 (fun q hq => .inr hq)
      clear hr hS hg3 hs3
      go_wp2_with fail
      refine (pick_any 6 rg m c _ A _ hr3 (by omega) (by omega) (by omega)).mono ?_
      rintro e w4 ⟨z, rfl, z0, z1, hr4, hg4, hs4⟩
      have hS4 := hS3.grownR hg4 hrg
      have hG4 := grow_more hG3 hg4 (fun q hq => .inr hq)
      have hGz4 := hG4.size
      clear hr3 hS3 hG3 hg4 hs4
      have hRow : Marks (w4.alloc (.cells #[.int .i64 0, .int .i64 y, .int .i64 z] 33)) w.heap.size (.slice (some ⟨w4.heap.size, 0, none⟩) 1 1) [⟨0, y, z⟩] :=
        ⟨World.ownsRow_lit (e := 33) (base := w.heap.size) (size := 3) w4 #[.int .i64 0, .int .i64 y, .int .i64 z] 1 hGz4 (by simp [maxLen]) rfl, by simp [small]⟩
      obtain ⟨vs, v1, v2, v3, v4⟩ := hS4
      have hlit : ((w4.alloc (.cells #[.int .i64 0, .int .i64 y, .int .i64 z] 33)).alloc (.cells #[.slice (some ⟨w4.heap.size, 0, none⟩) 1 1] 23)).heap[w4.heap.size + 1]? = some (.cells #[.slice (some ⟨w4.heap.size, 0, none⟩) 1 1] 23) := by
        have := heap_alloc_new (w4.alloc (.cells #[.int .i64 0, .int .i64 y, .int .i64 z] 33)) (.cells #[.slice (some ⟨w4.heap.size, 0, none⟩) 1 1] 23)
        rwa [World.size_alloc] at this
      go_wp2_with (first
        | (at_builtin
           go_must (refine wpList_append_src rfl _ _ 69 rfl w.heap.size 23 q0 _ 1 24 Try.underlying69 hq0 hq1 hq2 hq3 rfl (by omega) _ _ M 1 vs [.slice (some ⟨w4.heap.size, 0, none⟩) 1 1] rfl rfl (own_keep v3 (Nat.le_refl _) (by (repeat (first | (with_reducible assumption) | (with_reducible exact Below.refl _ _) | ((with_reducible refine Below.alloc ?_ ?hsz _); (case hsz => (first | omega | (simp; done) | (simp; omega) | (simp at *; omega)))) | ((with_reducible refine Below.setCell ?_ ?hsz _); (case hsz => (first | omega | (simp; done) | (simp; omega) | (simp at *; omega)))) | (with_reducible refine Below.drew ?_) | (with_reducible refine below_drewN ?_ _) | ((with_reducible refine Below.trans ?_ (Below.mono (by with_reducible assumption) ?hsz)); (case hsz => (first | omega | (simp; done) | (simp; omega) | (simp at *; omega)))))))) (lit_src hlit rfl (by simp [Value.oneCell'])) (by unfold maxLen; omega) (by omega) (by (first | omega | (simp; done) | (simp; omega) | (simp at *; omega))) ?_)
           intro r w7 hown7 hg7 hat7))
      have hS7 := StkM.snoc (w := (w4.alloc (.cells #[.int .i64 0, .int .i64 y, .int .i64 z] 33)).alloc (.cells #[.slice (some ⟨w4.heap.size, 0, none⟩) 1 1] 23)) vs v1 v2 (own_keep v3 (Nat.le_refl _) (by (repeat (first | (with_reducible assumption) | (with_reducible exact Below.refl _ _) | ((with_reducible refine Below.alloc ?_ ?hsz _); (case hsz => (first | omega | (simp; done) | (simp; omega) | (simp at *; omega)))) | ((with_reducible refine Below.setCell ?_ ?hsz _); (case hsz => (first | omega | (simp; done) | (simp; omega) | (simp at *; omega)))) | (with_reducible refine Below.drew ?_) | (with_reducible refine below_drewN ?_ _) | ((with_reducible refine Below.trans ?_ (Below.mono (by with_reducible assumption) ?hsz)); (case hsz => (first | omega | (simp; done) | (simp; omega) | (simp at *; omega)))))))) (fun k hk hk' => (v4 k hk hk').keep (by (repeat (first | (with_reducible assumption) | (with_reducible exact Below.refl _ _) | ((with_reducible refine Below.alloc ?_ ?hsz _); (case hsz => (first | omega | (simp; done) | (simp; omega) | (simp at *; omega)))) | ((with_reducible refine Below.setCell ?_ ?hsz _); (case hsz => (first | omega | (simp; done) | (simp; omega) | (simp at *; omega)))) | (with_reducible refine Below.drew ?_) | (with_reducible refine below_drewN ?_ _) | ((with_reducible refine Below.trans ?_ (Below.mono (by with_reducible assumption) ?hsz)); (case hsz => (first | omega | (simp; done) | (simp; omega) | (simp at *; omega)))))))) (hRow.keep (by (repeat (first | (with_reducible assumption) | (with_reducible exact Below.refl _ _) | ((with_reducible refine Below.alloc ?_ ?hsz _); (case hsz => (first | omega | (simp; done) | (simp; omega) | (simp at *; omega)))) | ((with_reducible refine Below.setCell ?_ ?hsz _); (case hsz => (first | omega | (simp; done) | (simp; omega) | (simp at *; omega)))) | (with_reducible refine Below.drew ?_) | (with_reducible refine below_drewN ?_ _) | ((with_reducible refine Below.trans ?_ (Below.mono (by with_reducible assumption) ?hsz)); (case hsz => (first | omega | (simp; done) | (simp; omega) | (simp at *; omega)))))))) hg7 hown7
      obtain ⟨g7, c7, rfl, -, -, -, -, -⟩ := hS7.form (by omega)
      have hG7 : w.grownBy w7 (some rg) := grow_more (grow_alloc (grow_alloc hG4 _) _) hg7 (fun q hq => .inl (v3.lt q hq).1)
      have hR7 : Rd w7 rg A m c (K + 2 + 2 * M + 2) := by
        have hrx := (hr4.alloc' (.cells #[.int .i64 0, .int .i64 y, .int .i64 z] 33)).alloc' (.cells #[.slice (some ⟨w4.heap.size, 0, none⟩) 1 1] 23)
        exact (hrx.low (below_grow hg7 (by (first | omega | (simp; done) | (simp; omega) | (simp at *; omega))) (fun q hq => by have := (v3.lt q hq).1; omega))).more (by omega)
      clear hown7 hg7 hat7 v1 v2 v3 v4 hRow hG4 hr4 hGz4 hlit
      go_roundw
      case rel => exact ⟨k - 1, M + 1, g7, c7, _, rfl, by first | rfl | exact congrArg (Value.int .i64) (by omega), by omega, hS7, hH.append (fun L hL => by simp at hL; subst hL; exact ⟨_, [], rfl, rfl⟩), by rw [lenS_append, hL]; rfl, hR7.more (by omega), hG7⟩
      case measure => simp [intOf]; omega
    · have hk0 : (k : Int) = 0 := by omega
      rw [hk0]
      go_wp2_with fail
      have hMX : M = X + 1 := by omega
      clear hk hk0
      go_loopw [5, 7] (fun a b wr => ∃ (M g cp : Nat) (Ls : List (List Mk)) (lf : Int), a = .slice (some ⟨g, 0, none⟩) M cp ∧ b = .int .i64 lf ∧ 0 ≤ lf ∧ lf ≤ 3 ∧ 1 ≤ M ∧ M ≤ 6 ∧ StkM wr w.heap.size (.slice (some ⟨g, 0, none⟩) M cp) M Ls ∧ headsP Ls ∧ lenS Ls + M ≤ 12 ∧ Rd wr rg A m c (K + 30 + 2 * (6 - M)) ∧ w.grownBy wr (some rg)) (fun a _ _ => lenV a)
      case atStart => exact ⟨M, g, cp, Ls, 3, rfl, rfl, by omega, by omega, by omega, by omega, hS, hH, by omega, hr.more (by omega), hG⟩
      case round =>
        clear hS hH hr hG hL hMk hGz hMX
        obtain ⟨M2, g2, cp2, Ls2, lf, rfl, rfl, l0, l3, m1, m6, hS, hH, hL, hr, hG⟩ := hrel
        have hGz := hG.size
        have hLl : Ls2.length = M2 := by obtain ⟨vs, -, h2, -, -⟩ := hS; exact h2
        by_cases hM : 1 < M2
        · go_wp2_with fail
          refine (pick_any _ rg m c _ A _ hr (by omega) (by omega) (by omega)).mono ?_
          rintro e w3 ⟨y, rfl, y0, y1, hr3, hg3, hs3⟩
          have hS3 := hS.grownR hg3 hrg
          have hG3 := grow_more hG hg3 (fun q hq => .inr hq)
          clear hr hS hG hg3 hs3
          obtain ⟨k, rfl⟩ : ∃ k : Nat, y = (k : Int) := ⟨y.toNat, by omega⟩
          go_wp2_with fail
          refine (pick_any 2 rg m c _ A _ hr3 (by omega) (by omega) (by omega)).mono ?_
          rintro e w4 ⟨z, rfl, z0, z1, hr4, hg4, hs4⟩
          have hS4 := hS3.grownR hg4 hrg
          have hG4 := grow_more hG3 hg4 (fun q hq => .inr hq)
          have hGz4 := hG4.size
          clear hr3 hS3 hG3 hg4 hs4
          go_upto_region 10 with fail
          go_cut [46] (fun t wx => w4 = wx ∧ ∃ b : Bool, t = .bool b ∧ (b = false → z = 0 → 0 < lf))
          case first =>
            by_cases hz : z = 0
            · subst hz
              by_cases hl : lf = 0
              · subst hl
                go_wp2_with fail
                go_meet
                exact ⟨rfl, _, rfl, fun h => by simp at h⟩
              · go_wp2_with fail
                go_meet
                exact ⟨rfl, _, rfl, fun _ _ => by omega⟩
            · have hz1 : z = 1 := by omega
              subst hz1
              go_wp2_with fail
              go_meet
              exact ⟨rfl, _, rfl, fun _ h => absurd h (by omega)⟩
          case rest =>
          obtain ⟨rfl, b, rfl, hb⟩ := hcut
          go_upto_if 46 with fail
          go_cut [9] (fun t wx => w4 = wx ∧ ∃ kd : Int, t = .int .i64 kd ∧ (kd = 1 ∨ kd = 2) ∧ (kd = 1 → 0 < lf))
          case first =>
            cases b with
            | true =>
              go_wp2_with fail
              go_meet
              exact ⟨rfl, 2, rfl, .inr rfl, fun h => absurd h (by omega)⟩
            | false =>
              go_wp2_with fail
              go_meet
              exact ⟨rfl, 1 + z, rfl, by omega, fun h => hb (by first | rfl | trivial) (by omega)⟩
          case rest =>
          obtain ⟨rfl, kd, rfl, hkd, hk1⟩ := hcut
          clear hb
          go_upto_if 48 with fail
          go_cut [7] (fun t wx => w4 = wx ∧ ∃ lf' : Int, t = .int .i64 lf' ∧ 0 ≤ lf' ∧ lf' ≤ 3)
          case first =>
            rcases hkd with rfl | rfl
            · have := hk1 rfl
              go_wp2_with fail
              go_meet
              exact ⟨rfl, _, rfl, by omega, by omega⟩
            · go_wp2_with fail
              go_meet
              exact ⟨rfl, _, rfl, by omega, by omega⟩
          case rest =>
          obtain ⟨rfl, lf', rfl, lf0, lf3⟩ := hcut
          have HK0 : kd ≠ 0 := by omega
          clear hk1 hkd l0 l3
          obtain ⟨gq, cq, hvq, c1, c2, gb1, gb2, hcell⟩ := hS4.form (by omega)
          injection hvq with e1 _ e3
          injection e1 with e1
          injection e1 with e1
          subst e1
          subst e3
          obtain ⟨s1, HM1, hf1, HP1⟩ := hcell k (by omega)
          obtain ⟨s2, HM2, hf2, HP2⟩ := hcell (k + 1) (by omega)
          have HD1 := hH Ls2[k] (List.getElem_mem _)
          have hl1 := len_le (List.getElem_mem (by omega : k < Ls2.length))
          have hl2 := len_le (List.getElem_mem (by omega : k + 1 < Ls2.length))
          obtain ⟨L1, hL1⟩ : ∃ L, Ls2[k] = L := ⟨_, rfl⟩
          obtain ⟨L2, hL2⟩ : ∃ L, Ls2[k + 1] = L := ⟨_, rfl⟩
          rw [hL1] at HM1 HD1 hl1
          rw [hL2] at HM2 hl2
          have HLL := Lib.hid (And.intro hL1 hL2)
          clear hL1 hL2 hcell
          go_wp2_with fail
          refine wp_region_flow 17 none [(0, 51), (1, 52), (2, 53), (3, 54), (4, 55), (5, 56), (6, 57), (7, 58), (8, 59), (9, 60), (10, 61), (11, 62), (12, 63), (13, 64), (14, 65), (15, 66), (16, 10)] (fun j x _ wx => tmV w4.heap.size g2 k (.slice (some ⟨g2, 0, none⟩) M2 cp2) s1 s2 kd L1 L2 j x wx) (tmR) (fun _ wx => Below w4.heap.size w4 wx) (by kernel_rfl) (by kernel_rfl) rfl ⟨rfl, rfl, rfl, Nat.le_refl _, fun _ _ => rfl⟩ ?_ ?_ ?_ ?_
          · intro i j hi hj hal x u wx wy hR hV
            have hi' : i < 17 := hi
            have hj' : j < 17 := hj
            by_cases n5 : i = 5
            · subst n5
              obtain ⟨row, hg, hrow⟩ := hR
              rcases j with _ | _ | _ | _ | _ | _ | _ | _ | _ | _ | _ | _ | _ | _ | _ | _ | _ | j
              all_goals first | exact hV | (exfalso; revert hal; decide) | (exfalso; omega) | skip
              obtain ⟨g, h1, h2⟩ := hV
              refine ⟨g, h1, heap_grown h2 hg fun e => ?_⟩
              obtain ⟨t, fr, hc⟩ := hrow g e.symm
              rw [h2] at hc
              injection hc with hc
              injection hc with hc _ _
              exact absurd hc (by simp)
            · by_cases n11 : i = 11
              · subst n11
                obtain ⟨row, hg, hrow⟩ := hR
                rcases j with _ | _ | _ | _ | _ | _ | _ | _ | _ | _ | _ | _ | _ | _ | _ | _ | _ | j
                all_goals first | exact hV | (exfalso; revert hal; decide) | (exfalso; omega) | skip
                obtain ⟨g, h1, h2⟩ := hV
                refine ⟨g, h1, heap_grown h2 hg fun e => ?_⟩
                have hc := hrow g e.symm
                rw [heap_cell h2 (j := 0) rfl] at hc
                injection hc with hc
                injection hc with _ hc
                exact HK0 hc
              · by_cases n15 : i = 15
                · subst n15
                  rcases j with _ | _ | _ | _ | _ | _ | _ | _ | _ | _ | _ | _ | _ | _ | _ | _ | _ | j
                  all_goals first | exact hV | (exfalso; revert hal; decide) | (exfalso; omega)
                · have hb : Below wx.heap.size wx wy := by
                    unfold tmR at hR
                    split at hR
                    · exact absurd rfl n5
                    · exact absurd rfl n11
                    · exact absurd rfl n15
                    · exact hR
                  rcases j with _ | _ | _ | _ | _ | _ | _ | _ | _ | _ | _ | _ | _ | _ | _ | _ | _ | j
                  all_goals first | exact hV | (exfalso; omega) | (exact Marks.keep hV hb) | (obtain ⟨g, h1, h2⟩ := hV; exact ⟨g, h1, heap_keep h2 hb⟩) | (obtain ⟨g, h1, h2, h3⟩ := hV; exact ⟨g, h1, h2, heap_keep h3 hb⟩)
          · exact fun _ _ _ _ _ _ _ h => h
          · simp (maxSteps := 4000000) only [eachOp, fillF, List.setIfInBounds_toArray, List.set_cons_succ, List.set_cons_zero]
            refine ⟨?_, ?_, ?_, ?_, ?_, ?_, ?_, ?_, ?_, ?_, ?_, ?_, ?_, ?_, ?_, ?_, ?_, trivial⟩ <;> intro u f wx hC hd <;> (try simp [allV, useOf, Region.binds] at hd)
            · go_wp2
              exact ⟨_, rfl, ⟨_, rfl, hC.size, heap_alloc_new _ _⟩, (Below.refl _ _).alloc (Nat.le_refl _) _, hC.alloc hC.size _⟩
            · go_wp2
              exact ⟨_, rfl, rfl, Below.refl _ _, hC⟩
            · go_wp2
              exact ⟨_, rfl, rfl, Below.refl _ _, hC⟩
            · rw [show u 1 = _ from (by first | exact hd | exact hd.1 | exact hd.2 | exact hd.2.1 | exact hd.2.2 | exact hd.2.2.1 | exact hd.2.2.2 | exact hd.2.2.2.1 | exact hd.2.2.2.2), show u 2 = _ from (by first | exact hd | exact hd.1 | exact hd.2 | exact hd.2.1 | exact hd.2.2 | exact hd.2.2.1 | exact hd.2.2.2 | exact hd.2.2.2.1 | exact hd.2.2.2.2)]
              go_wp2
              exact ⟨_, rfl, rfl, Below.refl _ _, hC⟩
            · rw [show u 3 = _ from (by first | exact hd | exact hd.1 | exact hd.2 | exact hd.2.1 | exact hd.2.2 | exact hd.2.2.1 | exact hd.2.2.2 | exact hd.2.2.2.1 | exact hd.2.2.2.2)]
              have e0 := HP1 wx hC
              go_wp2
              exact ⟨_, rfl, rfl, Below.refl _ _, hC⟩
            · rw [show u 4 = _ from (by first | exact hd | exact hd.1 | exact hd.2 | exact hd.2.1 | exact hd.2.2 | exact hd.2.2.1 | exact hd.2.2.2 | exact hd.2.2.2.1 | exact hd.2.2.2.2)]
              obtain ⟨hd2, hd3⟩ := hd
              obtain ⟨g, h2, hg2, hh2⟩ : ∃ g : Nat, u 0 = .slice (some ⟨g, 0, none⟩) 0 0 ∧ w4.heap.size ≤ g ∧ wx.heap[g]? = some (.cells #[] 33 (0, 0)) := hd2
              have hsrc := (HM1.keep hC).src
              refine wpList_append_src rfl (.tmp 51) (.tmp 55) 23 rfl w4.heap.size 33 j0 _ 3 24 Try.underlying23 hj0 hy0 hy1 hy2 rfl (by omega) (u 0) (s1) 0 L1.length _ _ rfl rfl (by rw [h2]; exact lit_own0 hg2 hh2) hsrc (by unfold maxLen; omega) (by omega) hC.size ?_
              intro r w7 hown7 hg7 hat7
              rw [Nat.zero_add, List.nil_append] at hown7
              have hrow : ∀ q, (u 0).ownBlock = some q → g = q := fun q hq => by rw [h2] at hq; injection hq
              refine wpList_nil ⟨r, rfl, ⟨hown7, by unfold small; omega⟩, ⟨_, hg7, fun q hq => ?_⟩, Below.grown hC hg7 hC.size (fun q hq => by have := hrow q hq; omega)⟩
              have := hrow q hq
              subst this
              exact ⟨_, _, hh2⟩
            · go_wp2
              exact ⟨_, rfl, rfl, Below.refl _ _, hC⟩
            · go_wp2
              exact ⟨_, rfl, rfl, Below.refl _ _, hC⟩
            · rw [show u 7 = _ from (by first | exact hd | exact hd.1 | exact hd.2 | exact hd.2.1 | exact hd.2.2 | exact hd.2.2.1 | exact hd.2.2.2 | exact hd.2.2.2.1 | exact hd.2.2.2.2)]
              go_wp2
              exact ⟨_, rfl, rfl, Below.refl _ _, hC⟩
            · rw [show u 6 = _ from (by first | exact hd | exact hd.1 | exact hd.2 | exact hd.2.1 | exact hd.2.2 | exact hd.2.2.1 | exact hd.2.2.2 | exact hd.2.2.2.1 | exact hd.2.2.2.2), show u 8 = _ from (by first | exact hd | exact hd.1 | exact hd.2 | exact hd.2.1 | exact hd.2.2 | exact hd.2.2.1 | exact hd.2.2.2 | exact hd.2.2.2.1 | exact hd.2.2.2.2)]
              go_wp2
              exact ⟨_, rfl, rfl, Below.refl _ _, hC⟩
            · rw [show u 9 = _ from (by first | exact hd | exact hd.1 | exact hd.2 | exact hd.2.1 | exact hd.2.2 | exact hd.2.2.1 | exact hd.2.2.2 | exact hd.2.2.2.1 | exact hd.2.2.2.2)]
              have e0 := HP2 wx hC
              go_wp2
              exact ⟨_, rfl, rfl, Below.refl _ _, hC⟩
            · rw [show u 10 = _ from (by first | exact hd | exact hd.1 | exact hd.2 | exact hd.2.1 | exact hd.2.2 | exact hd.2.2.1 | exact hd.2.2.2 | exact hd.2.2.2.1 | exact hd.2.2.2.2)]
              obtain ⟨hd2, hd3⟩ := hd
              have h5 : Marks wx w4.heap.size (u 5) L1 := hd2
              have hsrc := (HM2.keep hC).src
              refine wpList_append_src rfl (.tmp 56) (.tmp 61) 23 rfl w4.heap.size 33 j0 _ 3 24 Try.underlying23 hj0 hy0 hy1 hy2 rfl (by omega) (u 5) (s2) L1.length L2.length _ _ rfl rfl h5.1 hsrc (by unfold maxLen; omega) (by omega) hC.size ?_
              intro r w7 hown7 hg7 hat7
              refine wpList_nil ⟨r, rfl, Marks.app hown7 rfl (by unfold small; omega), ⟨_, hg7, fun q hq => ?_⟩, Below.grown hC hg7 hC.size (fun q hq => (h5.1.lt q hq).1)⟩
              exact head_cell h5 HD1 q hq
            · go_wp2
              exact ⟨_, rfl, rfl, Below.refl _ _, hC⟩
            · rw [show u 12 = _ from (by first | exact hd | exact hd.1 | exact hd.2 | exact hd.2.1 | exact hd.2.2 | exact hd.2.2.1 | exact hd.2.2.2 | exact hd.2.2.2.1 | exact hd.2.2.2.2)]
              go_wp2
              exact ⟨_, rfl, rfl, Below.refl _ _, hC⟩
            · rw [show u 13 = _ from (by first | exact hd | exact hd.1 | exact hd.2 | exact hd.2.1 | exact hd.2.2 | exact hd.2.2.1 | exact hd.2.2.2 | exact hd.2.2.2.1 | exact hd.2.2.2.2)]
              go_wp2
              exact ⟨_, rfl, ⟨_, rfl, heap_alloc_new _ _⟩, (Below.refl _ _).alloc (Nat.le_refl _) _, hC.alloc hC.size _⟩
            · obtain ⟨hd2, hd3⟩ := hd
              have h5 : Marks wx w4.heap.size (u 11) (L1 ++ L2) := hd2
              obtain ⟨g, h6, hh6⟩ : ∃ g : Nat, u 14 = .slice (some ⟨g, 0, none⟩) 1 1 ∧ wx.heap[g]? = some (.cells #[.int .i64 kd, .int .i64 0, .int .i64 0] 33) := hd3
              have h5' := h5.1
              rw [List.length_append] at h5'
              refine wpList_append_src rfl (.tmp 62) (.tmp 65) 23 rfl w4.heap.size 33 j0 _ 3 24 Try.underlying23 hj0 hy0 hy1 hy2 rfl (by omega) (u 11) (u 14) (L1.length + L2.length) 1 _ _ rfl rfl h5' (by rw [h6]; exact lit_src hh6 rfl (by simp [Value.oneCell'])) (by unfold maxLen; omega) (by omega) hC.size ?_
              intro r w7 hown7 hg7 hat7
              exact wpList_nil ⟨r, rfl, Marks.app (us := [⟨kd, 0, 0⟩]) hown7 (by simp) (by unfold small; omega), trivial, Below.grown hC hg7 hC.size (fun q hq => (h5.1.lt q hq).1)⟩
            · go_wp2
              exact ⟨_, rfl, hd, Below.refl _ _, hC⟩
          · intro u f wx hC hfin
            simp only [fillEnd, fillF, Act.put, List.setIfInBounds_toArray, List.set_cons_succ, List.set_cons_zero]
            have hb16 : Marks wx w4.heap.size (u 16) (L1 ++ L2 ++ [⟨kd, 0, 0⟩]) := hfin 16 (by decide) (by decide)
            clear hfin
            obtain ⟨bo, hbo⟩ : ∃ bo, u 16 = bo := ⟨_, rfl⟩
            rw [hbo] at hb16 ⊢
            clear hbo
            obtain ⟨Ab, cb, hv, -⟩ := hb16.form
            obtain ⟨nb, hnb⟩ : ∃ nb, (L1 ++ L2 ++ [(⟨kd, 0, 0⟩ : Mk)]).length = nb := ⟨_, rfl⟩
            rw [hnb] at hv
            subst hv
            clear hnb
            obtain ⟨vs, v1, v2, v3, v4⟩ := hS4
            have hone := heads_one v1 v4
            have hzx := hC.size
            have hsA : SrcOk (wx.alloc (.cells #[] 23)) 1 (.slice (some ⟨g2, 0, none⟩) k cp2) k (vs.take (k * 1)) := own_src (own_fst (own_keep v3 (Nat.le_refl _) (by (repeat (first | (with_reducible assumption) | (with_reducible exact Below.refl _ _) | ((with_reducible refine Below.alloc ?_ ?hsz _); (case hsz => (first | omega | (simp; done) | (simp; omega) | (simp at *; omega)))) | ((with_reducible refine Below.setCell ?_ ?hsz _); (case hsz => (first | omega | (simp; done) | (simp; omega) | (simp at *; omega)))) | (with_reducible refine Below.drew ?_) | (with_reducible refine below_drewN ?_ _) | ((with_reducible refine Below.trans ?_ (Below.mono (by with_reducible assumption) ?hsz)); (case hsz => (first | omega | (simp; done) | (simp; omega) | (simp at *; omega)))))))) (by omega)) (fun u hu => hone u (List.mem_of_mem_take hu))
            go_upto_region 16 with (first
              | (at_builtin
                 go_must (refine wpList_append_src rfl _ _ 69 rfl w4.heap.size 23 q0 _ 1 24 Try.underlying69 hq0 hq1 hq2 hq3 rfl (by omega) _ _ 0 k [] (vs.take (k * 1)) rfl rfl (lit_own0 hzx (heap_alloc_new _ _)) hsA (by unfold maxLen; omega) (by omega) (by (first | omega | (simp; done) | (simp; omega) | (simp at *; omega))) ?_)
                 intro r1 w7 hown7 hg7 hat7))
            rw [Nat.zero_add, List.nil_append] at hown7
            have hB7 : Below w4.heap.size w4 w7 := Below.grown (w := wx.alloc (.cells #[] 23)) (by (repeat (first | (with_reducible assumption) | (with_reducible exact Below.refl _ _) | ((with_reducible refine Below.alloc ?_ ?hsz _); (case hsz => (first | omega | (simp; done) | (simp; omega) | (simp at *; omega)))) | ((with_reducible refine Below.setCell ?_ ?hsz _); (case hsz => (first | omega | (simp; done) | (simp; omega) | (simp at *; omega)))) | (with_reducible refine Below.drew ?_) | (with_reducible refine below_drewN ?_ _) | ((with_reducible refine Below.trans ?_ (Below.mono (by with_reducible assumption) ?hsz)); (case hsz => (first | omega | (simp; done) | (simp; omega) | (simp at *; omega))))))) hg7 (by (first | omega | (simp; done) | (simp; omega) | (simp at *; omega))) (fun q hq => by
              have hq' : wx.heap.size = q := by injection hq
              omega)
            have hz7 := hB7.size
            have hb7 : Below wx.heap.size wx w7 := Below.grown (w := wx.alloc (.cells #[] 23)) (by (repeat (first | (with_reducible assumption) | (with_reducible exact Below.refl _ _) | ((with_reducible refine Below.alloc ?_ ?hsz _); (case hsz => (first | omega | (simp; done) | (simp; omega) | (simp at *; omega)))) | ((with_reducible refine Below.setCell ?_ ?hsz _); (case hsz => (first | omega | (simp; done) | (simp; omega) | (simp at *; omega)))) | (with_reducible refine Below.drew ?_) | (with_reducible refine below_drewN ?_ _) | ((with_reducible refine Below.trans ?_ (Below.mono (by with_reducible assumption) ?hsz)); (case hsz => (first | omega | (simp; done) | (simp; omega) | (simp at *; omega))))))) hg7 (by (first | omega | (simp; done) | (simp; omega) | (simp at *; omega))) (fun q hq => by
              have hq' : wx.heap.size = q := by injection hq
              omega)
            have hbo7 := hb16.keep hb7
            have hlit7 : (w7.alloc (.cells #[Value.slice Ab nb cb] 23)).heap[w7.heap.size]? = some (.cells #[Value.slice Ab nb cb] 23) := heap_alloc_new _ _
            clear hg7 hat7 hb7 hb16
            go_upto_region 17 with (first
              | (at_builtin
                 go_must (refine wpList_append_src rfl _ _ 69 rfl w4.heap.size 23 q0 _ 1 24 Try.underlying69 hq0 hq1 hq2 hq3 rfl (by omega) _ _ k 1 (vs.take (k * 1)) [Value.slice Ab nb cb] rfl rfl (own_keep hown7 (Nat.le_refl _) (by (repeat (first | (with_reducible assumption) | (with_reducible exact Below.refl _ _) | ((with_reducible refine Below.alloc ?_ ?hsz _); (case hsz => (first | omega | (simp; done) | (simp; omega) | (simp at *; omega)))) | ((with_reducible refine Below.setCell ?_ ?hsz _); (case hsz => (first | omega | (simp; done) | (simp; omega) | (simp at *; omega)))) | (with_reducible refine Below.drew ?_) | (with_reducible refine below_drewN ?_ _) | ((with_reducible refine Below.trans ?_ (Below.mono (by with_reducible assumption) ?hsz)); (case hsz => (first | omega | (simp; done) | (simp; omega) | (simp at *; omega)))))))) (lit_src hlit7 rfl (by simp [Value.oneCell'])) (by unfold maxLen; omega) (by omega) (by (first | omega | (simp; done) | (simp; omega) | (simp at *; omega))) ?_)
                 intro r2 w8 hown8 hg8 hat8))
            have hB8 : Below w4.heap.size w4 w8 := Below.grown (w := w7.alloc (.cells #[Value.slice Ab nb cb] 23)) (by (repeat (first | (with_reducible assumption) | (with_reducible exact Below.refl _ _) | ((with_reducible refine Below.alloc ?_ ?hsz _); (case hsz => (first | omega | (simp; done) | (simp; omega) | (simp at *; omega)))) | ((with_reducible refine Below.setCell ?_ ?hsz _); (case hsz => (first | omega | (simp; done) | (simp; omega) | (simp at *; omega)))) | (with_reducible refine Below.drew ?_) | (with_reducible refine below_drewN ?_ _) | ((with_reducible refine Below.trans ?_ (Below.mono (by with_reducible assumption) ?hsz)); (case hsz => (first | omega | (simp; done) | (simp; omega) | (simp at *; omega))))))) hg8 (by (first | omega | (simp; done) | (simp; omega) | (simp at *; omega))) (fun q hq => (hown7.lt q hq).1)
            have hz8 := hB8.size
            have hbo8 := (hbo7.keep (w' := w7.alloc (.cells #[Value.slice Ab nb cb] 23)) (by (repeat (first | (with_reducible assumption) | (with_reducible exact Below.refl _ _) | ((with_reducible refine Below.alloc ?_ ?hsz _); (case hsz => (first | omega | (simp; done) | (simp; omega) | (simp at *; omega)))) | ((with_reducible refine Below.setCell ?_ ?hsz _); (case hsz => (first | omega | (simp; done) | (simp; omega) | (simp at *; omega)))) | (with_reducible refine Below.drew ?_) | (with_reducible refine below_drewN ?_ _) | ((with_reducible refine Below.trans ?_ (Below.mono (by with_reducible assumption) ?hsz)); (case hsz => (first | omega | (simp; done) | (simp; omega) | (simp at *; omega)))))))).oth (own_keep hown7 (Nat.le_refl _) (by (repeat (first | (with_reducible assumption) | (with_reducible exact Below.refl _ _) | ((with_reducible refine Below.alloc ?_ ?hsz _); (case hsz => (first | omega | (simp; done) | (simp; omega) | (simp at *; omega)))) | ((with_reducible refine Below.setCell ?_ ?hsz _); (case hsz => (first | omega | (simp; done) | (simp; omega) | (simp at *; omega)))) | (with_reducible refine Below.drew ?_) | (with_reducible refine below_drewN ?_ _) | ((with_reducible refine Below.trans ?_ (Below.mono (by with_reducible assumption) ?hsz)); (case hsz => (first | omega | (simp; done) | (simp; omega) | (simp at *; omega)))))))) hg8
            have hsC := part_src (k := k + 2) v3 hB8 (by omega) (by omega) hone (cp2 - (k + 2))
            clear hlit7 hbo7 hown7 hB7 hat8 hg8 hz7
            have hS9 : ∀ (w9 : World) (r3 : Value), w9.ownsRow w4.heap.size 23 1 r3 (k + 1 + (M2 - (k + 2))) (vs.take (k * 1) ++ [Value.slice Ab nb cb] ++ vs.drop (k + 2)) → w8.grownBy w9 r2.ownBlock → Below w4.heap.size w4 w9 ∧ StkM w9 w.heap.size r3 (M2 - 1) (joinM Ls2 k kd) := by
              intro w9 r3 hown9 hg9
              have hB9 : Below w4.heap.size w4 w9 := Below.grown hB8 hg9 (by (first | omega | (simp; done) | (simp; omega) | (simp at *; omega))) (fun q hq => (hown8.lt q hq).1)
              refine ⟨hB9, ?_⟩
              have hbo9 := (hbo8.oth hown8 hg9).mono hGz4
              have e0 : k + 1 + (M2 - (k + 2)) = M2 - 1 := by omega
              rw [e0] at hown9
              have eL1 : Ls2.getD k [] = L1 := by rw [← HLL.out.1]; simp [List.getD_eq_getElem?_getD, List.getElem?_eq_getElem (by omega : k < Ls2.length)]
              have eL2 : Ls2.getD (k + 1) [] = L2 := by rw [← HLL.out.2]; simp [List.getD_eq_getElem?_getD, List.getElem?_eq_getElem (by omega : k + 1 < Ls2.length)]
              unfold joinM
              rw [eL1, eL2]
              refine ⟨_, by simp [v1], by simp; omega, own_mono hown9 hGz4, fun i hi hi' => ?_⟩
              have hvk : vs.length = Ls2.length := v1
              by_cases h1 : i < k
              · have e1 : (vs.take (k * 1) ++ [Value.slice Ab nb cb] ++ vs.drop (k + 2))[i] = vs[i]'(by omega) := by
                  rw [List.getElem_append_left (by simp; omega), List.getElem_append_left (by simp; omega), List.getElem_take]
                have e2 : (Ls2.take k ++ [L1 ++ L2 ++ [⟨kd, 0, 0⟩]] ++ Ls2.drop (k + 2))[i] = Ls2[i]'(by omega) := by
                  rw [List.getElem_append_left (by simp; omega), List.getElem_append_left (by simp; omega), List.getElem_take]
                rw [e1, e2]
                exact (v4 i (by omega) (by omega)).keep hB9
              · by_cases h2 : i = k
                · subst h2
                  have e1 : (vs.take (i * 1) ++ [Value.slice Ab nb cb] ++ vs.drop (i + 2))[i] = Value.slice Ab nb cb := by
                    rw [List.getElem_append_left (by simp; omega), List.getElem_append_right (by simp; omega)]
                    simp
                  have e2 : (Ls2.take i ++ [L1 ++ L2 ++ [⟨kd, 0, 0⟩]] ++ Ls2.drop (i + 2))[i] = L1 ++ L2 ++ [⟨kd, 0, 0⟩] := by
                    rw [List.getElem_append_left (by simp; omega), List.getElem_append_right (by simp; omega)]
                    simp
                  rw [e1, e2]
                  exact hbo9
                · simp only [List.length_append, List.length_take, List.length_drop, List.length_singleton] at hi hi'
                  have e1 : (vs.take (k * 1) ++ [Value.slice Ab nb cb] ++ vs.drop (k + 2))[i] = vs[i + 1]'(by omega) := by
                    rw [List.getElem_append_right (by simp; omega), List.getElem_drop]
                    congr 1; simp; omega
                  have e2 : (Ls2.take k ++ [L1 ++ L2 ++ [⟨kd, 0, 0⟩]] ++ Ls2.drop (k + 2))[i] = Ls2[i + 1]'(by omega) := by
                    rw [List.getElem_append_right (by simp; omega), List.getElem_drop]
                    congr 1; simp; omega
                  rw [e1, e2]
                  exact (v4 (i + 1) (by omega) (by omega)).keep hB9
            clear hbo8
            by_cases hcc : cp2 = k + 2
            · have hMe : M2 = k + 2 := by omega
              subst hMe
              subst hcc
              go_wp2_with (first
                | (at_builtin
                   go_must (refine wpList_append_src rfl _ _ 69 rfl w4.heap.size 23 q0 _ 1 24 Try.underlying69 hq0 hq1 hq2 hq3 rfl (by omega) r2 _ (k + 1) ((k + 2) - (k + 2)) (vs.take (k * 1) ++ [Value.slice Ab nb cb]) (vs.drop (k + 2)) rfl rfl hown8 (.inr ⟨_, _, rfl, by simp; omega, fun j u hj => absurd hj (by rw [List.drop_eq_nil_of_le (by omega)]; simp), fun u hu => hone u (List.mem_of_mem_drop hu)⟩) (by unfold maxLen; omega) (by omega) (by (first | omega | (simp; done) | (simp; omega) | (simp at *; omega))) ?_)
                   intro r3 w9 hown9 hg9 hat9))
              obtain ⟨hB9, hStk⟩ := hS9 w9 r3 hown9 hg9
              clear hown9 hg9 hat9
              obtain ⟨g9, c9, rfl, -, -, -, -, -⟩ := hStk.form (by omega)
              have hJ1 := join_lenS (kd := kd) (Ls := Ls2) (k := k) (by omega)
              go_roundw
              case rel => exact ⟨(k + 2) - 1, g9, c9, joinM Ls2 k kd, lf', rfl, rfl, lf0, lf3, by omega, by omega, hStk, join_heads (by omega) hH, by omega, (hr4.keep hB9).more (by omega), grow_below hG4 hB9⟩
              case measure => first | (simp [lenV]; omega) | simp [lenV]
            · go_wp2_with (first
                | (at_builtin
                   go_must (refine wpList_append_src rfl _ _ 69 rfl w4.heap.size 23 q0 _ 1 24 Try.underlying69 hq0 hq1 hq2 hq3 rfl (by omega) r2 _ (k + 1) (M2 - (k + 2)) (vs.take (k * 1) ++ [Value.slice Ab nb cb]) (vs.drop (k + 2)) rfl rfl hown8 (hsC) (by unfold maxLen; omega) (by omega) (by (first | omega | (simp; done) | (simp; omega) | (simp at *; omega))) ?_)
                   intro r3 w9 hown9 hg9 hat9))
              obtain ⟨hB9, hStk⟩ := hS9 w9 r3 hown9 hg9
              clear hown9 hg9 hat9
              obtain ⟨g9, c9, rfl, -, -, -, -, -⟩ := hStk.form (by omega)
              have hJ1 := join_lenS (kd := kd) (Ls := Ls2) (k := k) (by omega)
              go_roundw
              case rel => exact ⟨M2 - 1, g9, c9, joinM Ls2 k kd, lf', rfl, rfl, lf0, lf3, by omega, by omega, hStk, join_heads (by omega) hH, by omega, (hr4.keep hB9).more (by omega), grow_below hG4 hB9⟩
              case measure => first | (simp [lenV]; omega) | simp [lenV]
        · have hM1 : M2 = 1 := by omega
          subst hM1
          clear hM
          obtain ⟨vs, v1, v2, v3, v4⟩ := hS
          obtain ⟨L, rfl⟩ : ∃ L, Ls2 = [L] := by
            match Ls2, hLl with
            | [L], _ => exact ⟨L, rfl⟩
          obtain ⟨u, rfl⟩ : ∃ u, vs = [u] := by
            match vs, v1 with
            | [u], _ => exact ⟨u, rfl⟩
          have hM0 : Marks wr w.heap.size u L := v4 0 (by simp) (by simp)
          have hHd : headP L := hH L (by simp)
          have hLn : L.length ≤ 11 := by simp [lenS] at hL; omega
          obtain ⟨gs, hA, hg1, hg2, hcn, hcm, hc9⟩ := own_at v3 (by simp)
          injection hA with hA
          injection hA with hA
          subst hA
          obtain ⟨f0, f1⟩ := hc9 0 u (by simp)
          have hL0 : 0 < L.length := by obtain ⟨m, t, rfl, -⟩ := hHd; simp
          obtain ⟨Au, cu, rfl, hcu1, hcu2, hcu3, hcu⟩ := hM0.form
          unfold maxLen at hcu2 hcm
          obtain ⟨gu, rfl, hgu1, hgu2, -⟩ := hcu wr (Below.refl _ _) 0 hL0
          obtain ⟨l, hl⟩ : ∃ l, L.length = l := ⟨_, rfl⟩
          have HLl := Lib.hid hl
          rw [hl] at hLn hL0 hcu1 hcu3 hM0
          have HH := Lib.hid hHd
          clear hH hL hLl v4 hc9 hcu hHd v1 v2 v3
          rw [hl] at f0
          clear hl
          go_wp2_with fail
          refine (odd_all n rg m c _ A _ hr (by omega) (by omega)).mono ?_
          rintro e w5 ⟨b, rfl, hr5, hg5, hs5⟩
          have hM5 := hM0.grownR hg5 hrg
          have hG5 := grow_more hG hg5 (fun q hq => .inr hq)
          have hGz5 := hG5.size
          clear hr hM0 hG hg5 hs5 f0 f1
          cases b with
          | false =>
            go_wp2_with fail
            go_ret
            exact ⟨_, L, rfl, hM5, by have := HLl.out; omega, hr5.more (by omega), hG5⟩
          | true =>
            go_wp2_with fail
            refine (pick_any 4 rg m c _ A _ hr5 (by omega) (by omega) (by omega)).mono ?_
            rintro e w6 ⟨x, rfl, x0, x1, hr6, hg6, hs6⟩
            have hM6 := hM5.grownR hg6 hrg
            have hG6 := grow_more hG5 hg6 (fun q hq => .inr hq)
            have hGz6 := hG6.size
            clear hr5 hM5 hG5 hg6 hs6 hGz5
            have hx4 : x = 0 ∨ x = 1 ∨ x = 2 ∨ x = 3 := by omega
            clear x0 x1
            rcases hx4 with rfl | rfl | rfl | rfl
            · have hfin : Marks (w6.alloc (.cells #[] 33)) w.heap.size (.slice (some ⟨w6.heap.size, 0, none⟩) 0 0) [] := ⟨lit_own0 hGz6 (heap_alloc_new _ _), by simp [small]⟩
              go_wp2_with fail
              go_ret
              exact ⟨_, [], rfl, hfin, by simp, (hr6.alloc' _).more (by omega), grow_alloc hG6 _⟩
            · have h6' := (hM6.keep (w' := w6.alloc (.cells #[.int .i64 1, .int .i64 0, .int .i64 0] 33)) (by (repeat (first | (with_reducible assumption) | (with_reducible exact Below.refl _ _) | ((with_reducible refine Below.alloc ?_ ?hsz _); (case hsz => (first | omega | (simp; done) | (simp; omega) | (simp at *; omega)))) | ((with_reducible refine Below.setCell ?_ ?hsz _); (case hsz => (first | omega | (simp; done) | (simp; omega) | (simp at *; omega)))) | (with_reducible refine Below.drew ?_) | (with_reducible refine below_drewN ?_ _) | ((with_reducible refine Below.trans ?_ (Below.mono (by with_reducible assumption) ?hsz)); (case hsz => (first | omega | (simp; done) | (simp; omega) | (simp at *; omega)))))))).1
              rw [HLl.out] at h6'
              have hlit := heap_alloc_new w6 (.cells #[.int .i64 1, .int .i64 0, .int .i64 0] 33)
              go_wp2_with (first
                | (at_builtin
                   go_must (refine wpList_append_src rfl _ _ 23 rfl w.heap.size 33 j0 _ 3 24 Try.underlying23 hj0 hy0 hy1 hy2 rfl (by omega) _ _ l 1 _ [.int .i64 1, .int .i64 0, .int .i64 0] rfl rfl h6' (lit_src hlit rfl (by simp [Value.oneCell'])) (by unfold maxLen; omega) (by omega) (by (first | omega | (simp; done) | (simp; omega) | (simp at *; omega))) ?_)
                   intro r w7 hown7 hg7 hat7))
              have hG7 : w.grownBy w7 (some rg) := grow_more (grow_alloc hG6 _) hg7 (fun q hq => .inl (h6'.lt q hq).1)
              have hR7 := ((hr6.alloc' (.cells #[.int .i64 1, .int .i64 0, .int .i64 0] 33)).low (below_grow hg7 (by (first | omega | (simp; done) | (simp; omega) | (simp at *; omega))) (fun q hq => by have := (h6'.lt q hq).1; omega))).more (K' := K + 200) (by omega)
              have hfin : Marks w7 w.heap.size r (L ++ [⟨1, 0, 0⟩]) := Marks.app (us := [⟨1, 0, 0⟩]) (by simpa [Mk.cells] using hown7) (by simp; exact HLl.out.symm) (by unfold small; omega)
              clear hown7 hg7 hat7
              go_wp2_with fail
              go_ret
              exact ⟨_, _, rfl, hfin, by have := HLl.out; simp; omega, hR7, hG7⟩
            · have h6' := hM6.1
              rw [HLl.out] at h6'
              have hgu6 : gu < w6.heap.size := by have := (h6'.lt gu rfl).2; exact this
              obtain ⟨-, ⟨o0, o1, o2⟩, hof⟩ := own_cells3 (k := 0) h6' (by have := HLl.out; omega)
              have hset := own_set3 (k := 0) h6' (by have := HLl.out; omega) ⟨0, 5, 0⟩
              have hgr := own_grow3 h6' 0 1 2 (.int .i64 0) (.int .i64 5) (.int .i64 0)
              simp only [Nat.zero_mul, Nat.zero_add] at o0 o1 o2 hset
              have hG7 := grow_more hG6 hgr (fun q hq => by have hq' : gu = q := by injection hq
                                                            left; omega)
              have hR7 := (hr6.low (below_grow hgr (by omega) (fun q hq => by have hq' : gu = q := by injection hq
                                                                              omega))).more (K' := K + 200) (by omega)
              have HF := Lib.hid (And.intro hset (And.intro hG7 hR7))
              clear hset hG7 hR7 hgr
              go_wp2_with fail
              go_ret
              have hll := HLl.out
              refine ⟨_, L.set 0 ⟨0, 5, 0⟩, rfl, ⟨?_, by simp [small]; omega⟩, by simp; omega, HF.out.2.2, HF.out.2.1⟩
              have h := HF.out.1
              simp only [List.length_set]
              rw [hll]
              exact h
            · have hl0 : (w6.alloc (.cells #[] 33)).ownsRow w.heap.size 33 3 (.slice (some ⟨w6.heap.size, 0, none⟩) 0 0) 0 [] := lit_own0 hGz6 (heap_alloc_new _ _)
              have hsrc := (hM6.keep (w' := w6.alloc (.cells #[] 33)) (by (repeat (first | (with_reducible assumption) | (with_reducible exact Below.refl _ _) | ((with_reducible refine Below.alloc ?_ ?hsz _); (case hsz => (first | omega | (simp; done) | (simp; omega) | (simp at *; omega)))) | ((with_reducible refine Below.setCell ?_ ?hsz _); (case hsz => (first | omega | (simp; done) | (simp; omega) | (simp at *; omega)))) | (with_reducible refine Below.drew ?_) | (with_reducible refine below_drewN ?_ _) | ((with_reducible refine Below.trans ?_ (Below.mono (by with_reducible assumption) ?hsz)); (case hsz => (first | omega | (simp; done) | (simp; omega) | (simp at *; omega)))))))).src
              rw [HLl.out] at hsrc
              go_wp2_with (first
                | (at_builtin
                   (refine wpList_append_src rfl _ _ 23 rfl w.heap.size 33 j0 _ 3 24 Try.underlying23 hj0 hy0 hy1 hy2 rfl (by omega) _ _ 0 l [] _ rfl rfl hl0 hsrc (by unfold maxLen; omega) (by omega) (by (first | omega | (simp; done) | (simp; omega) | (simp at *; omega))) ?_)
                   intro r w7 hown7 hg7 hat7
                   go_must (rw [Nat.zero_add, List.nil_append] at hown7))
                | (at_builtin
                   go_must (refine wpList_append_src rfl _ _ 23 rfl w.heap.size 33 j0 _ 3 24 Try.underlying23 hj0 hy0 hy1 hy2 rfl (by omega) _ _ l 1 _ [.int .i64 0, .int .i64 1, .int .i64 0] rfl rfl (own_keep hown7 (Nat.le_refl _) (by (repeat (first | (with_reducible assumption) | (with_reducible exact Below.refl _ _) | ((with_reducible refine Below.alloc ?_ ?hsz _); (case hsz => (first | omega | (simp; done) | (simp; omega) | (simp at *; omega)))) | ((with_reducible refine Below.setCell ?_ ?hsz _); (case hsz => (first | omega | (simp; done) | (simp; omega) | (simp at *; omega)))) | (with_reducible refine Below.drew ?_) | (with_reducible refine below_drewN ?_ _) | ((with_reducible refine Below.trans ?_ (Below.mono (by with_reducible assumption) ?hsz)); (case hsz => (first | omega | (simp; done) | (simp; omega) | (simp at *; omega)))))))) (lit_src (heap_alloc_new w7 (.cells #[.int .i64 0, .int .i64 1, .int .i64 0] 33)) rfl (by simp [Value.oneCell'])) (by unfold maxLen; omega) (by omega) (by have := hg7.size; simp at this; (first | omega | (simp; done) | (simp; omega) | (simp at *; omega))) ?_)
                   intro r8 w8 hown8 hg8 hat8))
              have hG7 : w.grownBy w7 (some rg) := grow_more (grow_alloc hG6 _) hg7 (fun q hq => .inl (hl0.lt q hq).1)
              have hR7 := (hr6.alloc' (.cells #[] 33)).low (below_grow hg7 (by (first | omega | (simp; done) | (simp; omega) | (simp at *; omega))) (fun q hq => by have := (hl0.lt q hq).1; omega))
              have hz7 := hG7.size
              have hG8 : w.grownBy w8 (some rg) := grow_more (grow_alloc hG7 _) hg8 (fun q hq => .inl (hown7.lt q hq).1)
              have hR8 := ((hR7.alloc' (.cells #[.int .i64 0, .int .i64 1, .int .i64 0] 33)).low (below_grow hg8 (by (first | omega | (simp; done) | (simp; omega) | (simp at *; omega))) (fun q hq => by have := (hown7.lt q hq).1; omega))).more (K' := K + 200) (by omega)
              have hfin : Marks w8 w.heap.size r8 (L ++ [⟨0, 1, 0⟩]) := Marks.app (us := [⟨0, 1, 0⟩]) (by simpa [Mk.cells] using hown8) (by simp; exact HLl.out.symm) (by unfold small; omega)
              clear hown7 hg7 hat7 hown8 hg8 hat8
              go_wp2_with fail
              go_ret
              exact ⟨_, _, rfl, hfin, by have := HLl.out; simp; omega, hR8, hG8⟩

end Go.Proofs.Ytaohjhehlkeckaa

/- Contracts of the draws of terms. -/
namespace Go.Proofs.Ytaohjhehlkeckaa
open Go.RowKit

/-- what a draw of a row of marks leaves -/
def DrawnMarks (w : World) (e : Ending) (w' : World) : Prop :=
  ∃ (r : Value) (ts : List Mk), e = .returned r ∧ Marks w' w.heap.size r ts ∧ ts.length ≤ 14 ∧ Below w.heap.size w w'

set_option maxHeartbeats 1000000 in
set_option maxRecDepth 20000 in
theorem drawDualTerm_any (v : Value) (n : Nat) (w : World) (h : ArgBytes w v n) : Calls Try.prog 10 #[v] w (DrawnMarks w) := by
  go_enter Try.func10, Try.ntmps10
  go_wp2_with fail
  refine (l20Open_any v n _ (h.keep (by (repeat (first | (with_reducible assumption) | (with_reducible exact Below.refl _ _) | ((with_reducible refine Below.alloc ?_ ?hsz _); (case hsz => (first | omega | (simp; done) | (simp; omega) | (simp at *; omega)))) | ((with_reducible refine Below.setCell ?_ ?hsz _); (case hsz => (first | omega | (simp; done) | (simp; omega) | (simp at *; omega)))) | (with_reducible refine Below.drew ?_) | (with_reducible refine below_drewN ?_ _) | ((with_reducible refine Below.trans ?_ (Below.mono (by with_reducible assumption) ?hsz)); (case hsz => (first | omega | (simp; done) | (simp; omega) | (simp at *; omega))))))))).mono ?_
  rintro e w1 ⟨A, m, c, rfl, hr1, hb1, hz1⟩
  go_wp2_with fail
  refine (l20Term_any 9 w.heap.size m c 0 A _ hr1 (by omega) (by omega)).mono ?_
  rintro e w2 ⟨r, ts, rfl, hm, hl, hr2, hg2⟩
  go_wp2
  go_ret
  have hs2 := hg2.size
  exact ⟨_, ts, rfl, hm.mono (by omega), hl, hb1.trans (below_grow hg2 (by omega) (fun q hq => by injection hq with hq; omega))⟩

set_option maxHeartbeats 1000000 in
set_option maxRecDepth 20000 in
theorem drawLengthOf_any (v : Value) (n : Nat) (w : World) (h : ArgBytes w v n) : Calls Try.prog 18 #[v] w (DrawnMarks w) := by
  go_enter Try.func18, Try.ntmps18
  go_wp2_with fail
  refine (l20Open_any v n _ (h.keep (by (repeat (first | (with_reducible assumption) | (with_reducible exact Below.refl _ _) | ((with_reducible refine Below.alloc ?_ ?hsz _); (case hsz => (first | omega | (simp; done) | (simp; omega) | (simp at *; omega)))) | ((with_reducible refine Below.setCell ?_ ?hsz _); (case hsz => (first | omega | (simp; done) | (simp; omega) | (simp at *; omega)))) | (with_reducible refine Below.drew ?_) | (with_reducible refine below_drewN ?_ _) | ((with_reducible refine Below.trans ?_ (Below.mono (by with_reducible assumption) ?hsz)); (case hsz => (first | omega | (simp; done) | (simp; omega) | (simp at *; omega))))))))).mono ?_
  rintro e w1 ⟨A, m, c, rfl, hr1, hb1, hz1⟩
  go_wp2_with fail
  refine (l20Term_any 9 w.heap.size m c 0 A _ hr1 (by omega) (by omega)).mono ?_
  rintro e w2 ⟨r, ts, rfl, hm, hl, hr2, hg2⟩
  go_wp2
  go_ret
  have hs2 := hg2.size
  exact ⟨_, ts, rfl, hm.mono (by omega), hl, hb1.trans (below_grow hg2 (by omega) (fun q hq => by injection hq with hq; omega))⟩

set_option maxHeartbeats 1000000 in
set_option maxRecDepth 20000 in
theorem drawNarrowOf_any (v : Value) (n : Nat) (w : World) (h : ArgBytes w v n) : Calls Try.prog 20 #[v] w (DrawnMarks w) := by
  go_enter Try.func20, Try.ntmps20
  go_wp2_with fail
  refine (l20Open_any v n _ (h.keep (by (repeat (first | (with_reducible assumption) | (with_reducible exact Below.refl _ _) | ((with_reducible refine Below.alloc ?_ ?hsz _); (case hsz => (first | omega | (simp; done) | (simp; omega) | (simp at *; omega)))) | ((with_reducible refine Below.setCell ?_ ?hsz _); (case hsz => (first | omega | (simp; done) | (simp; omega) | (simp at *; omega)))) | (with_reducible refine Below.drew ?_) | (with_reducible refine below_drewN ?_ _) | ((with_reducible refine Below.trans ?_ (Below.mono (by with_reducible assumption) ?hsz)); (case hsz => (first | omega | (simp; done) | (simp; omega) | (simp at *; omega))))))))).mono ?_
  rintro e w1 ⟨A, m, c, rfl, hr1, hb1, hz1⟩
  go_wp2_with fail
  refine (l20Term_any 9 w.heap.size m c 0 A _ hr1 (by omega) (by omega)).mono ?_
  rintro e w2 ⟨r, ts, rfl, hm, hl, hr2, hg2⟩
  go_wp2
  go_ret
  have hs2 := hg2.size
  exact ⟨_, ts, rfl, hm.mono (by omega), hl, hb1.trans (below_grow hg2 (by omega) (fun q hq => by injection hq with hq; omega))⟩

set_option maxHeartbeats 1000000 in
set_option maxRecDepth 20000 in
theorem drawLeftTerm_any (v : Value) (n : Nat) (w : World) (h : ArgBytes w v n) : Calls Try.prog 29 #[v] w (DrawnMarks w) := by
  go_enter Try.func29, Try.ntmps29
  go_wp2_with fail
  refine (l20Open_any v n _ (h.keep (by (repeat (first | (with_reducible assumption) | (with_reducible exact Below.refl _ _) | ((with_reducible refine Below.alloc ?_ ?hsz _); (case hsz => (first | omega | (simp; done) | (simp; omega) | (simp at *; omega)))) | ((with_reducible refine Below.setCell ?_ ?hsz _); (case hsz => (first | omega | (simp; done) | (simp; omega) | (simp at *; omega)))) | (with_reducible refine Below.drew ?_) | (with_reducible refine below_drewN ?_ _) | ((with_reducible refine Below.trans ?_ (Below.mono (by with_reducible assumption) ?hsz)); (case hsz => (first | omega | (simp; done) | (simp; omega) | (simp at *; omega))))))))).mono ?_
  rintro e w1 ⟨A, m, c, rfl, hr1, hb1, hz1⟩
  go_wp2_with fail
  refine (l20Term_any 9 w.heap.size m c 0 A _ hr1 (by omega) (by omega)).mono ?_
  rintro e w2 ⟨r, ts, rfl, hm, hl, hr2, hg2⟩
  go_wp2
  go_ret
  have hs2 := hg2.size
  exact ⟨_, ts, rfl, hm.mono (by omega), hl, hb1.trans (below_grow hg2 (by omega) (fun q hq => by injection hq with hq; omega))⟩

theorem more_term {ts : List Mk} (h : termB ts = true) (h7 : pipesN ts < 7) : termB (ts ++ [⟨0, 2, 1⟩, ⟨2, 0, 0⟩]) = true := by
  obtain ⟨T, rfl, hg, h1, h3⟩ := (termB_iff ts).1 h
  rw [pipesN_yes h, Tm.count0] at h7
  exact (termB_iff _).2 ⟨.two true T (.pipe 2 1), rfl, ⟨hg, by simp [Tm.good]⟩, by simp [Tm.pipes]; omega, by simp [Tm.thens]; omega⟩

end Go.Proofs.Ytaohjhehlkeckaa
