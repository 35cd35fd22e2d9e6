/- Plain facts. -/
import Derived.Test.YtmgpekdhcghabaaGreatMG
import Derived.Deep.AppendLies
import Derived.Test.YtmgpekdhcghabaaGreatGR13
import Derived.Deep.DeepCutAuto
import Derived.Deep.RegionWith
/- A variable of two cells, and what only one block's turning keeps. -/
namespace Go.Proofs.YtmgpekdhcghabaaGreat
open Go.RowKit

def Box2 (w : World) (g : Nat) (u0 u1 : Value) : Prop :=
  g < w.heap.size ∧ w.cell? ⟨g, 0, none⟩ = some u0 ∧ w.cell? ⟨g, 1, none⟩ = some u1 ∧ w.frozen? ⟨g, 0, none⟩ = false ∧ w.frozen? ⟨g, 1, none⟩ = false

section
variable {w w' : World} {g : Nat} {u0 u1 : Value}
theorem Box2.new (w : World) (u0 u1 : Value) (t : TypeId) : Box2 (w.alloc (.cells #[u0, u1] t)) w.heap.size u0 u1 := by
  refine ⟨by simp, ?_, ?_, ?_, ?_⟩ <;> simp
theorem Box2.grown (h : Box2 w g u0 u1) {row : Option Nat} (hg : w.grownBy w' row) (hne : some g ≠ row) : Box2 w' g u0 u1 :=
  ⟨Nat.lt_of_lt_of_le h.1 hg.size, (hg.cell_far ⟨g, 0, none⟩ h.1 hne).trans h.2.1, (hg.cell_far ⟨g, 1, none⟩ h.1 hne).trans h.2.2.1,
    (hg.frozen_far ⟨g, 0, none⟩ h.1 hne).trans h.2.2.2.1, (hg.frozen_far ⟨g, 1, none⟩ h.1 hne).trans h.2.2.2.2⟩
theorem Box2.keep (h : Box2 w g u0 u1) (hb : Below w.heap.size w w') : Box2 w' g u0 u1 :=
  ⟨Nat.lt_of_lt_of_le h.1 hb.size, (hb.cell (p := ⟨g, 0, none⟩) h.1).trans h.2.1, (hb.cell (p := ⟨g, 1, none⟩) h.1).trans h.2.2.1,
    (hb.frozen (p := ⟨g, 0, none⟩) h.1).trans h.2.2.2.1, (hb.frozen (p := ⟨g, 1, none⟩) h.1).trans h.2.2.2.2⟩
theorem Box2.set1 (h : Box2 w g u0 u1) (v : Value) : Box2 (w.setCell ⟨g, 1, none⟩ v) g u0 v :=
  ⟨by simpa using h.1, (World.cell?_setCell_other _ _ _ _ (by simp)).trans h.2.1, World.cell?_setCell_same _ _ _ h.2.2.1, by simpa using h.2.2.2.1, by simpa using h.2.2.2.2⟩
theorem Box2.set0 (h : Box2 w g u0 u1) (v : Value) : Box2 (w.setCell ⟨g, 0, none⟩ v) g v u1 :=
  ⟨by simpa using h.1, World.cell?_setCell_same _ _ _ h.2.1, (World.cell?_setCell_other _ _ _ _ (by simp)).trans h.2.2.1, by simpa using h.2.2.2.1, by simpa using h.2.2.2.2⟩
theorem Box2.far (h : Box2 w g u0 u1) {p : Addr} (hp : p.block ≠ g) (v : Value) : Box2 (w.setCell p v) g u0 u1 :=
  ⟨by simpa using h.1, (World.cell?_setCell_other _ _ _ _ (by rintro rfl; exact hp rfl)).trans h.2.1, (World.cell?_setCell_other _ _ _ _ (by rintro rfl; exact hp rfl)).trans h.2.2.1, by simpa using h.2.2.2.1, by simpa using h.2.2.2.2⟩

theorem grow_refl (w : World) (r : Option Nat) : w.grownBy w r := World.grownBy.refl w r
theorem grow_drew {a w : World} {r : Option Nat} (h : a.grownBy w r) : a.grownBy w.drew r := ⟨h.os, h.tape, h.output, h.size, h.block⟩
theorem grow_drewN {a w : World} {r : Option Nat} (h : a.grownBy w r) (n : Nat) : a.grownBy (w.drewN n) r := ⟨h.os, h.tape, h.output, h.size, h.block⟩
theorem grow_alloc {a w : World} {r : Option Nat} (h : a.grownBy w r) (o : Obj) : a.grownBy (w.alloc o) r :=
  ⟨h.os, h.tape, h.output, Nat.le_trans h.size (by simp), fun i hi hne => (Below.heap_alloc w o i (Nat.lt_of_lt_of_le hi h.size)).trans (h.block i hi hne)⟩
theorem grow_set {a w : World} {r : Option Nat} (h : a.grownBy w r) {p : Addr} (hp : a.heap.size ≤ p.block ∨ r = some p.block) (u : Value) : a.grownBy (w.setCell p u) r :=
  ⟨h.os, h.tape, h.output, by simpa using h.size, fun i hi hne => (Below.heap_setCell w p u i (by
    rintro rfl
    rcases hp with hp | hp
    · omega
    · exact hne hp.symm)).trans (h.block i hi hne)⟩
/-- a callee that turns only the row, and what is new, of a later world -/
theorem grow_more {a w w' : World} {r r' : Option Nat} (h : a.grownBy w r) (k : w.grownBy w' r') (hr : ∀ q, r' = some q → a.heap.size ≤ q ∨ r = some q) : a.grownBy w' r :=
  ⟨k.os.trans h.os, k.tape.trans h.tape, k.output.trans h.output, Nat.le_trans h.size k.size, fun i hi hne => (k.block i (Nat.lt_of_lt_of_le hi h.size) (by
    intro e
    rcases hr i e.symm with h1 | h1
    · omega
    · exact hne h1.symm)).trans (h.block i hi hne)⟩
theorem grow_below {a w w' : World} {r : Option Nat} (h : a.grownBy w r) (k : Below w.heap.size w w') : a.grownBy w' r :=
  ⟨k.os.trans h.os, k.tape.trans h.tape, k.output.trans h.output, Nat.le_trans h.size k.size, fun i hi hne => (k.block i (Nat.lt_of_lt_of_le hi h.size)).trans (h.block i hi hne)⟩
theorem below_grow {a w : World} {r : Option Nat} {B : Nat} (h : a.grownBy w r) (hB : B ≤ a.heap.size) (hr : ∀ q, r = some q → B ≤ q) : Below B a w :=
  ⟨h.os, h.tape, h.output, h.size, fun i hi => h.block i (by omega) (fun e => by have := hr i e.symm; omega)⟩
theorem own_grow {b n size : Nat} {e : TypeId} {v : Value} {xs : List Value} (h : w.ownsRow b e size v n xs) {r : Option Nat} (hg : w.grownBy w' r) (hr : ∀ q, r = some q → q < b) : w'.ownsRow b e size v n xs := by
  refine h.kept hg ?_
  cases hv : v.ownBlock with
  | none => exact .inl rfl
  | some q =>
    refine .inr fun e => ?_
    have h1 := (h.lt q hv).1
    have h2 := hr q e.symm
    omega
theorem gcell {rg : Nat} (hg : w.grownBy w' (some rg)) : (∀ b o, b < w.heap.size → b ≠ rg → w'.cell? ⟨b, o, none⟩ = w.cell? ⟨b, o, none⟩) ∧ (∀ b o, b < w.heap.size → b ≠ rg → w'.frozen? ⟨b, o, none⟩ = w.frozen? ⟨b, o, none⟩) :=
  ⟨fun b o h hne => hg.cell_far ⟨b, o, none⟩ h (by intro e; injection e with e; exact hne e), fun b o h hne => hg.frozen_far ⟨b, o, none⟩ h (by intro e; injection e with e; exact hne e)⟩
end

/-- a pipe's variable, known whole -/
def Box5 (w : World) (g : Nat) (p : Pp) : Prop :=
  g < w.heap.size ∧ w.cell? ⟨g, 0, none⟩ = some (.int .i64 p.fr) ∧ w.cell? ⟨g, 1, none⟩ = some (.int .i64 p.to) ∧ w.cell? ⟨g, 2, none⟩ = some (.int .i64 p.le) ∧ w.cell? ⟨g, 3, none⟩ = some (.int .i64 p.mo) ∧ w.cell? ⟨g, 4, none⟩ = some (.int .i64 p.co) ∧
    ∀ j, w.frozen? ⟨g, j, none⟩ = false

theorem Box5.grown {w w' : World} {g : Nat} {p : Pp} (h : Box5 w g p) {row : Option Nat} (hg : w.grownBy w' row) (hne : some g ≠ row) : Box5 w' g p := by
  obtain ⟨h0, h1, h2, h3, h4, h5, h6⟩ := h
  exact ⟨Nat.lt_of_lt_of_le h0 hg.size, (hg.cell_far ⟨g, 0, none⟩ h0 hne).trans h1, (hg.cell_far ⟨g, 1, none⟩ h0 hne).trans h2, (hg.cell_far ⟨g, 2, none⟩ h0 hne).trans h3, (hg.cell_far ⟨g, 3, none⟩ h0 hne).trans h4,
    (hg.cell_far ⟨g, 4, none⟩ h0 hne).trans h5, fun j => (hg.frozen_far ⟨g, j, none⟩ h0 hne).trans (h6 j)⟩

theorem Box5.new (w : World) (a b c d e : Int) (t : TypeId) {g : Nat} (hg : w.heap.size = g) : Box5 (w.alloc (.cells #[.int .i64 a, .int .i64 b, .int .i64 c, .int .i64 d, .int .i64 e] t)) g ⟨a, b, c, d, e⟩ := by
  subst hg
  refine ⟨by simp, by simp, by simp, by simp, by simp, by simp, fun j => by simp⟩

theorem Box5.of_sets {w : World} {g : Nat} (a b c d e : Int) (h : g < w.heap.size) {u0 u1 u2 u3 u4 : Value} (h0 : w.cell? ⟨g, 0, none⟩ = some u0) (h1 : w.cell? ⟨g, 1, none⟩ = some u1) (h2 : w.cell? ⟨g, 2, none⟩ = some u2)
    (h3 : w.cell? ⟨g, 3, none⟩ = some u3) (h4 : w.cell? ⟨g, 4, none⟩ = some u4) (hf : ∀ j, w.frozen? ⟨g, j, none⟩ = false) :
    Box5 (((((w.setCell ⟨g, 0, none⟩ (.int .i64 a)).setCell ⟨g, 1, none⟩ (.int .i64 b)).setCell ⟨g, 2, none⟩ (.int .i64 c)).setCell ⟨g, 3, none⟩ (.int .i64 d)).setCell ⟨g, 4, none⟩ (.int .i64 e)) g ⟨a, b, c, d, e⟩ := by
  have k : ∀ (W : World) (i j : Nat) (u : Value), i ≠ j → (W.setCell ⟨g, i, none⟩ u).cell? ⟨g, j, none⟩ = W.cell? ⟨g, j, none⟩ := fun W i j u hij => World.cell?_setCell_other _ _ _ _ (by intro h; injection h with _ h; exact hij h)
  have s : ∀ (W : World) (i : Nat) (u v : Value), W.cell? ⟨g, i, none⟩ = some v → (W.setCell ⟨g, i, none⟩ u).cell? ⟨g, i, none⟩ = some u := fun W i u v hv => World.cell?_setCell_same _ _ _ hv
  refine ⟨by simpa using h, ?_, ?_, ?_, ?_, ?_, fun j => by simpa using hf j⟩
  · rw [k _ 4 0 _ (by omega), k _ 3 0 _ (by omega), k _ 2 0 _ (by omega), k _ 1 0 _ (by omega)]; exact s _ _ _ _ h0
  · rw [k _ 4 1 _ (by omega), k _ 3 1 _ (by omega), k _ 2 1 _ (by omega)]; exact s _ _ _ _ (by rw [k _ 0 1 _ (by omega)]; exact h1)
  · rw [k _ 4 2 _ (by omega), k _ 3 2 _ (by omega)]; exact s _ _ _ _ (by rw [k _ 1 2 _ (by omega), k _ 0 2 _ (by omega)]; exact h2)
  · rw [k _ 4 3 _ (by omega)]; exact s _ _ _ _ (by rw [k _ 2 3 _ (by omega), k _ 1 3 _ (by omega), k _ 0 3 _ (by omega)]; exact h3)
  · exact s _ _ _ _ (by rw [k _ 3 4 _ (by omega), k _ 2 4 _ (by omega), k _ 1 4 _ (by omega), k _ 0 4 _ (by omega)]; exact h4)

end Go.Proofs.YtmgpekdhcghabaaGreat

/- Rows of numbers that are turned in place. -/
namespace Go.Proofs.YtmgpekdhcghabaaGreat
open Go.RowKit

/-- a row of numbers in a block of its own, from block b on, that may be turned -/
def Row (w : World) (b g n cap : Nat) (L : List Int) : Prop := w.ownsRow b 3 1 (.slice (some ⟨g, 0, none⟩) n cap) n (L.map (Value.int .i64)) ∧ n ≤ small

section
variable {w w' : World} {b g n cap : Nat} {L : List Int}
theorem Row.len (h : Row w b g n cap L) : L.length = n := by have := h.1.1; simp at this; omega
theorem Row.lt (h : Row w b g n cap L) : b ≤ g ∧ g < w.heap.size := h.1.lt g rfl
theorem Row.at' (h : Row w b g n cap L) (j : Nat) (hj : j < n) : w.cell? ⟨g, j, none⟩ = some (.int .i64 (L.getD j 0)) ∧ w.frozen? ⟨g, j, none⟩ = false := by
  have hl := h.len
  refine ⟨?_, h.1.frozenAt j⟩
  rw [h.1.cellAt j (by omega), List.getElem?_map, List.getElem?_eq_getElem (by omega)]
  simp [List.getD_eq_getElem?_getD, List.getElem?_eq_getElem (show j < L.length by omega)]
theorem Row.capd (h : Row w b g n cap L) : n ≤ cap ∧ cap ≤ maxLen := by
  rcases h.1.2 with ⟨h', _⟩ | ⟨g', cap', cur, h', hb, hg, hnc, hcm, hcs, htake⟩
  · simp at h'
  · simp only [Value.slice.injEq, Option.some.injEq, Addr.mk.injEq, and_true, true_and] at h'
    obtain ⟨rfl, rfl⟩ := h'
    exact ⟨hnc, hcm⟩
theorem Row.set (h : Row w b g n cap L) (j : Nat) (x : Int) : Row (w.setCell ⟨g, j, none⟩ (.int .i64 x)) b g n cap (L.set j x) := by
  refine ⟨?_, h.2⟩
  have := (h.1.stored j (.int .i64 x)).1
  rw [← List.map_set] at this
  exact this
theorem Row.keep (h : Row w b g n cap L) (hb : Below w.heap.size w w') : Row w' b g n cap L := ⟨own_keep h.1 (Nat.le_refl _) hb, h.2⟩
theorem Row.mono {b' : Nat} (h : Row w b g n cap L) (hb : b' ≤ b) : Row w b' g n cap L := ⟨own_mono h.1 hb, h.2⟩
theorem Row.grown (h : Row w b g n cap L) {r : Option Nat} (hg : w.grownBy w' r) (hr : r ≠ some g) : Row w' b g n cap L := by
  refine ⟨h.1.kept hg (.inr fun e => hr (e.symm.trans rfl)), h.2⟩
theorem Row.far (h : Row w b g n cap L) {a : Addr} (ha : a.block ≠ g) (u : Value) : Row (w.setCell a u) b g n cap L := by
  refine ⟨⟨h.1.1, ?_⟩, h.2⟩
  rcases h.1.2 with h0 | ⟨g', cap', cur, hv, hg, hh, r⟩
  · exact .inl h0
  · refine .inr ⟨g', cap', cur, hv, hg, ?_, r⟩
    have e : g' = g := by
      simp only [Value.slice.injEq, Option.some.injEq, Addr.mk.injEq, and_true, true_and] at hv
      exact hv.1.symm
    rw [Below.heap_setCell w a u g' (by rw [e]; exact fun hx => ha hx.symm)]; exact hh
theorem Row.drew (h : Row w b g n cap L) : Row w.drew b g n cap L := h
theorem Row.ints (h : Row w b g n cap L) : Ints w b (.slice (some ⟨g, 0, none⟩) n cap) L := by
  have hl := h.len
  refine ⟨?_, by rw [hl]; exact h.2⟩
  rw [hl]; exact h.1
theorem Ints.row {v : Value} (h : Ints w b v L) (hl : 0 < L.length) : ∃ g cap, v = .slice (some ⟨g, 0, none⟩) L.length cap ∧ Row w b g L.length cap L := by
  rcases h.1.2 with ⟨-, h0⟩ | ⟨g, cap, cur, hv, hg, hh, r⟩
  · omega
  · subst hv
    exact ⟨g, cap, rfl, h.1, h.2⟩
theorem Ints_made (w : World) {n b g : Nat} (hb : b ≤ w.heap.size) (hn : n ≤ 4194304) (hg : g = w.heap.size) : Ints (w.alloc (.cells (madeCells #[.int .i64 0] n) 3)) b (.slice (some ⟨g, 0, none⟩) n n) (List.replicate n 0) := by
  subst hg
  have h := made_ints w n 3 b hb hn
  exact ⟨by rw [List.length_replicate]; exact h, by rw [List.length_replicate]; exact hn⟩
theorem Ints_one (w : World) (x : Int) {b g : Nat} (hb : b ≤ w.heap.size) (hg : g = w.heap.size) : Ints (w.alloc (.cells #[.int .i64 x] 3)) b (.slice (some ⟨g, 0, none⟩) 1 1) [x] := by
  subst hg
  exact ⟨World.ownsRow_lit (e := 3) (base := b) (size := 1) w #[.int .i64 x] 1 hb (by simp [maxLen]) rfl, by simp [small]⟩
end

end Go.Proofs.YtmgpekdhcghabaaGreat

/- Contracts of the functions of chapter 3 in the model: how far it is from each node. -/
namespace Go.Proofs.YtmgpekdhcghabaaGreat
open Go.RowKit

/-- the steps below a number that may be made -/
def opens (ps : List Pp) (xs : List Int) (k : Nat) : List Nat := (List.range k).filter (openF ps xs)
theorem opens_yes {ps : List Pp} {xs : List Int} {k : Nat} (h : openF ps xs k = true) : opens ps xs (k + 1) = opens ps xs k ++ [k] := by simp [opens, List.range_succ, List.filter_append, h]
theorem opens_no {ps : List Pp} {xs : List Int} {k : Nat} (h : openF ps xs k = false) : opens ps xs (k + 1) = opens ps xs k := by simp [opens, List.range_succ, List.filter_append, h]
theorem opens_all (ps : List Pp) (xs : List Int) : opens ps xs (2 * ps.length) = stL ps xs := rfl
theorem fars_snoc (r : Nat) (L : List Int) (E : List (Int × Int)) (e : Int × Int) : fars r L (E ++ [e]) = far1 r (fars r L E) e := by simp [fars]

set_option maxHeartbeats 4000000 in
set_option maxRecDepth 20000 in
theorem specFar_any (n tt : Int) (v u : Value) (ps : List Pp) (xs : List Int) (b b' : Nat) (w : World) (hp : Pipes w b v ps) (hx : Ints w b' u xs) (hh : holdsB n ps xs = true) (h0 : 0 ≤ tt) (h1 : tt < n) :
    Calls Tryz.prog 134 #[.agg #[.int .i64 n, v], u, .int .i64 tt] w fun e w' => ∃ r, e = .returned r ∧ Ints w' w.heap.size r (farL (edgL ps xs) n.toNat tt) ∧ Below w.heap.size w w' := by
  have hp0 := hp
  have hx0 := hx
  have hn := holds_net hh
  obtain ⟨hfl, -, hlen⟩ := holds_parts hh
  obtain ⟨-, -, hbd⟩ := flowOk_parts hfl
  obtain ⟨A, c, rfl, hc1, hc2, hsm, -⟩ := hp.form
  obtain ⟨A', c', rfl, hc1', hc2', hsm', -⟩ := hx.form
  unfold maxLen at hc2 hc2'
  obtain ⟨n2, n5, hl7, -⟩ := netOk_parts hn
  obtain ⟨N, rfl⟩ : ∃ N : Nat, n = (N : Int) := ⟨n.toNat, by omega⟩
  obtain ⟨T, rfl⟩ : ∃ T : Nat, tt = (T : Int) := ⟨tt.toNat, by omega⟩
  rw [Int.toNat_natCast] at *
  have HE := Lib.hid (edg_in hn xs)
  rw [Int.toNat_natCast] at HE
  have HN := Lib.hid hn
  have HB := Lib.hid (And.intro hlen (And.intro hbd (net_rooms hn)))
  clear hn hh hfl hlen hbd
  obtain ⟨i0, hi0, hz0, hz1, hz2⟩ := info_parts int_info
  go_enter Tryz.func134, Tryz.ntmps134
  go_wp2_with fail
  go_loopw [8, 7] (fun i t wr => ∃ (k cap : Nat) (A1 : Option Addr), k ≤ N ∧ i = .int .i64 k ∧ t = .slice A1 k cap ∧
      wr.ownsRow (w.heap.size + 1) 3 1 (.slice A1 k cap) k ((List.replicate k (-1 : Int)).map (Value.int .i64)) ∧ Below w.heap.size w wr ∧ Box2 wr w.heap.size (.int .i64 N) (.slice A ps.length c)) (fun i _ _ => N - (intOf i).toNat)
  case atStart =>
    refine ⟨0, 0, some ⟨w.heap.size + 1, 0, none⟩, by omega, rfl, by simp, ?_, by (repeat (first | (with_reducible assumption) | (with_reducible exact Below.refl _ _) | ((with_reducible refine Below.alloc ?_ ?hsz _); (case hsz => (first | omega | (simp; done) | (simp; omega) | (simp at *; omega)))) | ((with_reducible refine Below.setCell ?_ ?hsz _); (case hsz => (first | omega | (simp; done) | (simp; omega) | (simp at *; omega)))) | (with_reducible refine Below.drew ?_) | (with_reducible refine below_drewN ?_ _) | ((with_reducible refine Below.trans ?_ (Below.mono (by with_reducible assumption) ?hsz)); (case hsz => (first | omega | (simp; done) | (simp; omega) | (simp at *; omega)))))), ?_⟩
    · have h := World.ownsRow_lit (e := 3) (base := w.heap.size + 1) (size := 1) (w.alloc (.cells #[.int .i64 N, .slice A ps.length c] 25)) #[] 0 (by simp) (by simp [maxLen]) rfl
      rw [World.size_alloc] at h
      exact h
    · exact (Box2.new w _ _ _).keep (by (repeat (first | (with_reducible assumption) | (with_reducible exact Below.refl _ _) | ((with_reducible refine Below.alloc ?_ ?hsz _); (case hsz => (first | omega | (simp; done) | (simp; omega) | (simp at *; omega)))) | ((with_reducible refine Below.setCell ?_ ?hsz _); (case hsz => (first | omega | (simp; done) | (simp; omega) | (simp at *; omega)))) | (with_reducible refine Below.drew ?_) | (with_reducible refine below_drewN ?_ _) | ((with_reducible refine Below.trans ?_ (Below.mono (by with_reducible assumption) ?hsz)); (case hsz => (first | omega | (simp; done) | (simp; omega) | (simp at *; omega)))))))
  case round =>
    obtain ⟨k, cap, A1, hk, rfl, rfl, hown, hb, bx⟩ := hrel
    obtain ⟨bs, d0, d1, -, -⟩ := id bx
    by_cases hlt : k < N
    · have hrow : ∀ q, (Value.slice A1 k cap).ownBlock = some q → w.heap.size + 1 ≤ q := fun q hq => (hown.lt q hq).1
      have hzs := hb.size
      go_wp2_with (first
        | (at_builtin
           go_must (refine wpList_append_lies _ rfl _ _ 30 rfl (w.heap.size + 1) 3 i0 _ 1 8 Tryz.underlying30 hi0 hz0 hz1 hz2 rfl (by omega) _ k _ rfl (hown.alloc _) ⟨wr.heap.size, 0, none⟩ 1 1 [.int .i64 (-1)] rfl rfl (World.news_of_block (cs := #[.int .i64 (-1)]) (t := 3) (fr := (0, 0)) (heap_alloc_new _ _)) (by simp [Value.oneCell']) (by omega) (by unfold maxLen; omega) (by omega) (by simp; omega) _ rfl ?_)
           intro g2 k2 w7 hown7 hgr7 hat7 hlt7))
      have hb7 : Below w.heap.size w w7 := Below.grown (w := wr.alloc (.cells #[.int .i64 (-1)] 3)) (by (repeat (first | (with_reducible assumption) | (with_reducible exact Below.refl _ _) | ((with_reducible refine Below.alloc ?_ ?hsz _); (case hsz => (first | omega | (simp; done) | (simp; omega) | (simp at *; omega)))) | ((with_reducible refine Below.setCell ?_ ?hsz _); (case hsz => (first | omega | (simp; done) | (simp; omega) | (simp at *; omega)))) | (with_reducible refine Below.drew ?_) | (with_reducible refine below_drewN ?_ _) | ((with_reducible refine Below.trans ?_ (Below.mono (by with_reducible assumption) ?hsz)); (case hsz => (first | omega | (simp; done) | (simp; omega) | (simp at *; omega))))))) hgr7 (by (first | omega | (simp; done) | (simp; omega) | (simp at *; omega))) (fun q hq => by have := hrow q hq; omega)
      have bx7 := (bx.keep ((Below.refl _ _).alloc (Nat.le_refl _) (.cells #[.int .i64 (-1)] 3))).grown hgr7 (by intro h; have := hrow _ h.symm; omega)
      have hown8 : w7.ownsRow (w.heap.size + 1) 3 1 (.slice (some ⟨g2, 0, none⟩) (k + 1) k2) (k + 1) ((List.replicate (k + 1) (-1 : Int)).map (Value.int .i64)) := by
        rw [List.replicate_succ', List.map_append]
        simpa using hown7
      clear hown7 hgr7 hat7 hlt7
      go_roundw
      case rel => exact ⟨k + 1, k2, some ⟨g2, 0, none⟩, by omega, by go_num, rfl, hown8, hb7, bx7⟩
      case measure => simp [intOf]; omega
    · have hkN : k = N := by omega
      subst hkN
      have hrow0 : Ints wr (w.heap.size + 1) (.slice A1 k cap) (List.replicate k (-1)) := ⟨by rw [List.length_replicate]; exact hown, by simp [small]; omega⟩
      obtain ⟨gl, cl, hv, hR⟩ := hrow0.row (by simp; omega)
      rw [List.length_replicate] at hv hR
      simp only [Value.slice.injEq, true_and] at hv
      obtain ⟨rfl, rfl⟩ := hv
      obtain ⟨hg1, hg2⟩ := hR.lt
      obtain ⟨hcl1, hcl2⟩ := hR.capd
      unfold maxLen at hcl2
      obtain ⟨y0, y1⟩ := hR.at' T (by omega)
      have HR0 := Lib.hid (hR.set T 0)
      have bx0 := bx.far (p := ⟨gl, T, none⟩) (by simp; omega) (.int .i64 0)
      clear hown hrow0 hR hlt
      go_wp2_with fail
      go_loopw [9] (fun i wr => ∃ r : Nat, r ≤ k ∧ i = .int .i64 r ∧ Row wr (w.heap.size + 1) gl k cap (farR (edgL ps xs) (far0 k T) r) ∧ Box2 wr w.heap.size (.int .i64 k) (.slice A ps.length c) ∧ Below w.heap.size w wr) (fun i _ => k - (intOf i).toNat)
      case atStart => exact ⟨0, by omega, rfl, HR0.out, bx0, by (repeat (first | (with_reducible assumption) | (with_reducible exact Below.refl _ _) | ((with_reducible refine Below.alloc ?_ ?hsz _); (case hsz => (first | omega | (simp; done) | (simp; omega) | (simp at *; omega)))) | ((with_reducible refine Below.setCell ?_ ?hsz _); (case hsz => (first | omega | (simp; done) | (simp; omega) | (simp at *; omega)))) | (with_reducible refine Below.drew ?_) | (with_reducible refine below_drewN ?_ _) | ((with_reducible refine Below.trans ?_ (Below.mono (by with_reducible assumption) ?hsz)); (case hsz => (first | omega | (simp; done) | (simp; omega) | (simp at *; omega))))))⟩
      case round =>
        obtain ⟨r, hr, rfl, hR, bx1, hb1⟩ := hrel
        clear y0 y1 HR0 hb bx d0 d1 bs bx0
        by_cases hlt : r < k
        · obtain ⟨bs, d0, d1, -, -⟩ := id bx1
          have hdlt : decide ((r : Int) < (k : Int)) = true := by simp; omega
          go_wp2_with fail
          have Hlt := Lib.hid hlt
          clear hlt
          go_loopw [10] (fun t wr => ∃ j : Nat, j ≤ 2 * ps.length ∧ t = .int .i64 j ∧ Row wr (w.heap.size + 1) gl k cap (fars r (farR (edgL ps xs) (far0 k T) r) ((opens ps xs j).map (stE ps))) ∧ Box2 wr w.heap.size (.int .i64 k) (.slice A ps.length c) ∧ Below w.heap.size w wr) (fun t _ => 2 * ps.length - (intOf t).toNat)
          case atStart => exact ⟨0, by omega, rfl, by simpa [fars, opens] using hR, bx1, hb1⟩
          case round =>
            clear hR bx1 hb1 d0 d1 bs
            obtain ⟨j, hj, rfl, hR, bx, hb⟩ := hrel
            obtain ⟨bs, d0, d1, -, -⟩ := id bx
            by_cases hlt2 : j < 2 * ps.length
            · obtain ⟨⟨a0, a1⟩, ⟨e0, e1⟩, -⟩ := st_ends HN.out hlt2
              obtain ⟨a, ha⟩ : ∃ a : Nat, stFr ps j = (a : Int) := ⟨(stFr ps j).toNat, by omega⟩
              obtain ⟨e, he⟩ : ∃ e : Nat, stTo ps j = (e : Int) := ⟨(stTo ps j).toNat, by omega⟩
              rw [ha] at a0 a1
              rw [he] at e0 e1
              have hE : stE ps j = ((a : Int), (e : Int)) := by simp [stE, ha, he]
              generalize hL : fars r (farR (edgL ps xs) (far0 k T) r) ((opens ps xs j).map (stE ps)) = L at *
              obtain ⟨rm, hrm⟩ : ∃ rm, stRoom ps xs j = rm := ⟨_, rfl⟩
              obtain ⟨la, hla⟩ : ∃ la, L.getD a 0 = la := ⟨_, rfl⟩
              obtain ⟨le, hle⟩ : ∃ le, L.getD e 0 = le := ⟨_, rfl⟩
              have hf1 : far1 r L ((a : Int), (e : Int)) = if le = r ∧ la < 0 then L.set a (r + 1) else L := by
                show (if L.getD e 0 = r ∧ L.getD a 0 < 0 then L.set a (r + 1) else L) = _
                rw [hla, hle]
              go_wp2_with fail
              with_reducible refine (specStep_any j (k : Int) _ _ ps xs b b' _ (hp0.keep hb) (hx0.keep hb) hlt2 HB.out.1 HB.out.2.1 HB.out.2.2).mono ?_
              rintro ee w2 ⟨rfl, hb2⟩
              rw [ha, he, hrm]
              have hR2 := hR.keep hb2
              have bx2 := bx.keep hb2
              have hbw2 : Below w.heap.size w w2 := by (repeat (first | (with_reducible assumption) | (with_reducible exact Below.refl _ _) | ((with_reducible refine Below.alloc ?_ ?hsz _); (case hsz => (first | omega | (simp; done) | (simp; omega) | (simp at *; omega)))) | ((with_reducible refine Below.setCell ?_ ?hsz _); (case hsz => (first | omega | (simp; done) | (simp; omega) | (simp at *; omega)))) | (with_reducible refine Below.drew ?_) | (with_reducible refine below_drewN ?_ _) | ((with_reducible refine Below.trans ?_ (Below.mono (by with_reducible assumption) ?hsz)); (case hsz => (first | omega | (simp; done) | (simp; omega) | (simp at *; omega))))))
              clear hR bx hb hb2 bs d0 d1
              obtain ⟨y0, y1⟩ := hR2.at' a (by omega)
              obtain ⟨z0, -⟩ := hR2.at' e (by omega)
              rw [hla] at y0
              rw [hle] at z0
              have hg9 := hR2.lt
              by_cases ho : 0 < rm
              · have hop : openF ps xs j = true := by rw [openF, hrm]; simpa using ho
                have hdo : decide (0 < rm) = true := by simpa using ho
                have hsn : fars r (farR (edgL ps xs) (far0 k T) r) ((opens ps xs (j + 1)).map (stE ps)) = if le = r ∧ la < 0 then L.set a (r + 1) else L := by
                  rw [opens_yes hop, List.map_append, List.map_cons, List.map_nil, fars_snoc, hL, hE, hf1]
                by_cases h2 : le = r
                · by_cases h3 : la < 0
                  · have h2d : (le == (r : Int)) = true := by simpa using h2
                    have h3d : decide (la < 0) = true := by simpa using h3
                    rw [if_pos ⟨h2, h3⟩] at hsn
                    have hR3 := hR2.set a ((r : Int) + 1)
                    rw [← hsn] at hR3
                    have HR3 := Lib.hid hR3
                    have bx3 := bx2.far (p := ⟨gl, a, none⟩) (by simp; omega) (.int .i64 ((r : Int) + 1))
                    have hrk : (r : Int) < 10 := by have := Hlt.out; omega
                    clear hR3 hsn hf1 hop ho h2 h3 hle hla hrm hE hL ha he
                    go_wp2
                    go_roundw
                    case rel => exact ⟨j + 1, by omega, by go_num, HR3.out, bx3, by (repeat (first | (with_reducible assumption) | (with_reducible exact Below.refl _ _) | ((with_reducible refine Below.alloc ?_ ?hsz _); (case hsz => (first | omega | (simp; done) | (simp; omega) | (simp at *; omega)))) | ((with_reducible refine Below.setCell ?_ ?hsz _); (case hsz => (first | omega | (simp; done) | (simp; omega) | (simp at *; omega)))) | (with_reducible refine Below.drew ?_) | (with_reducible refine below_drewN ?_ _) | ((with_reducible refine Below.trans ?_ (Below.mono (by with_reducible assumption) ?hsz)); (case hsz => (first | omega | (simp; done) | (simp; omega) | (simp at *; omega))))))⟩
                    case measure => simp [intOf]; omega
                  · have h2d : (le == (r : Int)) = true := by simpa using h2
                    have h3d : decide (la < 0) = false := by simpa using h3
                    rw [if_neg (fun hh => h3 hh.2)] at hsn
                    have hR3 := hR2
                    rw [← hsn] at hR3
                    have HR3 := Lib.hid hR3
                    clear hR3 hsn hf1 hop ho hle hla hrm hE hL ha he
                    (try clear h2)
                    (try clear h3)
                    go_wp2
                    go_roundw
                    case rel => exact ⟨j + 1, by omega, by go_num, HR3.out, bx2, by (repeat (first | (with_reducible assumption) | (with_reducible exact Below.refl _ _) | ((with_reducible refine Below.alloc ?_ ?hsz _); (case hsz => (first | omega | (simp; done) | (simp; omega) | (simp at *; omega)))) | ((with_reducible refine Below.setCell ?_ ?hsz _); (case hsz => (first | omega | (simp; done) | (simp; omega) | (simp at *; omega)))) | (with_reducible refine Below.drew ?_) | (with_reducible refine below_drewN ?_ _) | ((with_reducible refine Below.trans ?_ (Below.mono (by with_reducible assumption) ?hsz)); (case hsz => (first | omega | (simp; done) | (simp; omega) | (simp at *; omega))))))⟩
                    case measure => simp [intOf]; omega
                · have h2d : (le == (r : Int)) = false := by simpa using h2
                  rw [if_neg (fun hh => h2 hh.1)] at hsn
                  have hR3 := hR2
                  rw [← hsn] at hR3
                  have HR3 := Lib.hid hR3
                  clear hR3 hsn hf1 hop ho hle hla hrm hE hL ha he
                  (try clear h2)
                  (try clear h3)
                  go_wp2
                  go_roundw
                  case rel => exact ⟨j + 1, by omega, by go_num, HR3.out, bx2, by (repeat (first | (with_reducible assumption) | (with_reducible exact Below.refl _ _) | ((with_reducible refine Below.alloc ?_ ?hsz _); (case hsz => (first | omega | (simp; done) | (simp; omega) | (simp at *; omega)))) | ((with_reducible refine Below.setCell ?_ ?hsz _); (case hsz => (first | omega | (simp; done) | (simp; omega) | (simp at *; omega)))) | (with_reducible refine Below.drew ?_) | (with_reducible refine below_drewN ?_ _) | ((with_reducible refine Below.trans ?_ (Below.mono (by with_reducible assumption) ?hsz)); (case hsz => (first | omega | (simp; done) | (simp; omega) | (simp at *; omega))))))⟩
                  case measure => simp [intOf]; omega
              · have hop : openF ps xs j = false := by rw [openF, hrm]; simpa using ho
                have hdo : decide (0 < rm) = false := by simpa using ho
                have hsn : fars r (farR (edgL ps xs) (far0 k T) r) ((opens ps xs (j + 1)).map (stE ps)) = L := by
                  rw [opens_no hop, hL]
                have hR3 := hR2
                rw [← hsn] at hR3
                have HR3 := Lib.hid hR3
                clear hR3 hsn hf1 hop ho hle hla hrm hE hL ha he
                (try clear h2)
                (try clear h3)
                go_wp2
                go_roundw
                case rel => exact ⟨j + 1, by omega, by go_num, HR3.out, bx2, by (repeat (first | (with_reducible assumption) | (with_reducible exact Below.refl _ _) | ((with_reducible refine Below.alloc ?_ ?hsz _); (case hsz => (first | omega | (simp; done) | (simp; omega) | (simp at *; omega)))) | ((with_reducible refine Below.setCell ?_ ?hsz _); (case hsz => (first | omega | (simp; done) | (simp; omega) | (simp at *; omega)))) | (with_reducible refine Below.drew ?_) | (with_reducible refine below_drewN ?_ _) | ((with_reducible refine Below.trans ?_ (Below.mono (by with_reducible assumption) ?hsz)); (case hsz => (first | omega | (simp; done) | (simp; omega) | (simp at *; omega))))))⟩
                case measure => simp [intOf]; omega
            · go_wp2
              have hk2 : j = 2 * ps.length := by omega
              subst hk2
              rw [opens_all] at hR
              go_roundw
              case rel => exact ⟨r + 1, by have := Hlt.out; omega, by have := Hlt.out; go_num, hR, bx, hb⟩
              case measure => have := Hlt.out; simp [intOf]; omega
        · obtain ⟨bs, d0, d1, -, -⟩ := id bx1
          go_wp2
          go_ret
          have hr2 : r = k := by omega
          subst hr2
          rw [farR_dst HE.out (by omega)] at hR
          exact ⟨_, rfl, hR.ints.mono (by omega), hb1⟩

end Go.Proofs.YtmgpekdhcghabaaGreat
