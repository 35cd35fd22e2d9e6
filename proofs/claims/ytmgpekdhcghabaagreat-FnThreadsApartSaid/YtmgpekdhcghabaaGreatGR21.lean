/- Plain facts. -/
import Derived.Test.YtmgpekdhcghabaaGreatGR4
import Derived.Deep.RegionHeld3
import Derived.Test.YtmgpekdhcghabaaGreatGR20
import Derived.Test.YtmgpekdhcghabaaGreatGR2
import Derived.Test.YtmgpekdhcghabaaGreatGR25
import Derived.Deep.AppendLies
/- Contracts of the functions of chapter 2 in the model: AcrossOf. -/
namespace Go.Proofs.YtmgpekdhcghabaaGreat
open Go.RowKit


end Go.Proofs.YtmgpekdhcghabaaGreat

/- Contracts of the functions of chapter 4 in the model: PartsOf. -/
namespace Go.Proofs.YtmgpekdhcghabaaGreat
open Go.RowKit

theorem flows_all' {n i j : Int} {ps : List Pp} {xs : List Int} (h : ∀ q : Nat, (q : Int) < n → (q : Int) = i ∨ (q : Int) = j ∨ exc (q : Int) ps xs = 0) : flowsB n ps xs i j = decide (0 ≤ exc j ps xs) := by
  have : ((List.range n.toNat).all fun k : Nat => decide ((k : Int) = i) || decide ((k : Int) = j) || decide (exc (k : Int) ps xs = 0)) = true := by
    rw [List.all_eq_true]
    intro q hq
    have := h q (by have := List.mem_range.1 hq; omega)
    simp only [Bool.or_eq_true, decide_eq_true_eq]
    rcases this with h | h | h
    · exact .inl (.inl h)
    · exact .inl (.inr h)
    · exact .inr h
  rw [flowsB, this, Bool.true_and]
theorem parts_on' {ps : List Pp} {a b left : Int} {xs : List Int} {f : Nat} (h : 0 < left) : partsP ps a b (f + 1) left xs = (partD ps xs a b left :: natsI (partP ps xs a b)) :: partsP ps a b f (partL ps xs a b left) (lessP (partD ps xs a b left) xs (partP ps xs a b)) := by rw [partsP, if_pos h]
theorem parts_off' {ps : List Pp} {a b left : Int} {xs : List Int} {f : Nat} (h : ¬ 0 < left) : partsP ps a b (f + 1) left xs = ringsL ps xs := by rw [partsP, if_neg h]
theorem parts_yes' {n a b : Int} {ps : List Pp} {xs : List Int} (h : partsOkB n ps xs a b = true) : partsR n ps xs a b = partsP ps a b 10 (exc b ps xs) xs := by rw [partsR, if_pos h]
theorem parts_no' {n a b : Int} {ps : List Pp} {xs : List Int} (h : partsOkB n ps xs a b = false) : partsR n ps xs a b = [] := by rw [partsR, if_neg (by simp [h])]
theorem rows_app {w w6 : World} {b g cap g6 k6 : Nat} {Ls Ms : List (List Int)} {vs us : List Value} (h1 : vs.length = Ls.length) (h1' : us.length = Ms.length) (h2 : w.ownsRow b 30 1 (.slice (some ⟨g, 0, none⟩) Ls.length cap) Ls.length vs)
    (h4 : ∀ k (h : k < Ls.length) (h' : k < vs.length), Ints w b vs[k] Ls[k]) (h4' : ∀ k (h : k < Ms.length) (h' : k < us.length), Ints w b us[k] Ms[k]) (hs : Ls.length + Ms.length ≤ small) (hg : w.grownBy w6 (some g))
    (ho : w6.ownsRow b 30 1 (.slice (some ⟨g6, 0, none⟩) (Ls.length + Ms.length) k6) (Ls.length + Ms.length) (vs ++ us)) : OwnRows w6 b g6 k6 (Ls ++ Ms) := by
  have hl : (Ls ++ Ms).length = Ls.length + Ms.length := by simp
  refine ⟨vs ++ us, by simp [h1, h1'], by rw [hl]; exact ho, by rw [hl]; exact hs, fun k hk hk' => ?_⟩
  by_cases hlt : k < Ls.length
  · have e1 : (vs ++ us)[k] = vs[k]'(by omega) := List.getElem_append_left (by omega)
    have e2 : (Ls ++ Ms)[k] = Ls[k] := List.getElem_append_left hlt
    rw [e1, e2]
    exact (h4 k hlt (by omega)).other h2 hg
  · have hk2 : k < Ls.length + Ms.length := by rw [hl] at hk; exact hk
    have e1 : (vs ++ us)[k] = us[k - vs.length]'(by omega) := List.getElem_append_right (by omega)
    have e2 : (Ls ++ Ms)[k] = Ms[k - Ls.length]'(by omega) := List.getElem_append_right (by omega)
    have e3 : us[k - vs.length]'(by omega) = us[k - Ls.length]'(by omega) := by congr 1; omega
    rw [e1, e2, e3]
    exact (h4' (k - Ls.length) (by omega) (by omega)).other h2 hg
theorem rows_src' {w : World} {b n : Nat} {v : Value} {vs : List Value} {Ls : List (List Int)} (h : w.ownsRow b 30 1 v n vs) (h1 : vs.length = Ls.length) (h4 : ∀ k (h : k < Ls.length) (h' : k < vs.length), Ints w b vs[k] Ls[k]) : SrcOk w 1 v n vs :=
  own_src h fun u hu => by
    obtain ⟨k, hk, rfl⟩ := List.getElem_of_mem hu
    obtain ⟨A, c, e, -⟩ := (h4 k (by omega) hk).form
    rw [e]
    rfl
theorem own_some {w : World} {b e size n : Nat} {v : Value} {xs : List Value} {g : Nat} (h : w.ownsRow b e size v n xs) (hv : v.ownBlock = some g) : ∃ cap, v = .slice (some ⟨g, 0, none⟩) n cap := by
  rcases h.2 with ⟨h0, -⟩ | ⟨g1, c1, cur1, h0, -⟩
  · rw [h0] at hv; cases hv
  · rw [h0] at hv
    have : g1 = g := by injection hv
    subst this
    exact ⟨c1, h0⟩

set_option maxHeartbeats 4000000 in
set_option maxRecDepth 20000 in
theorem specPartsIn_any (n i j : Int) (v u : Value) (ps : List Pp) (xs : List Int) (b b' : Nat) (w : World) (hp : Pipes w b v ps) (hx : Ints w b' u xs) (hok : partsOkB n ps xs i j = true) :
    Calls Tryz.prog 32 #[.agg #[.int .i64 n, v], u, .int .i64 i, .int .i64 j] w fun e w' => ∃ g cap : Nat, e = .returned (.tuple #[.slice (some ⟨g, 0, none⟩) (partsR n ps xs i j).length cap, .bool true]) ∧ OwnRows w' w.heap.size g cap (partsR n ps xs i j) ∧ Below w.heap.size w w' := by
  have hp0 := hp
  have hx0 := hx
  obtain ⟨A, c, rfl, -, -, -, -⟩ := hp.form
  obtain ⟨A0, c0, rfl, -, -, -, -⟩ := hx.form
  obtain ⟨hst, hl0⟩ := PartSt.of hok
  have Hyes := Lib.hid (parts_yes' hok)
  have hok' := hok
  simp only [partsOkB, Bool.and_eq_true] at hok'
  obtain ⟨⟨hfl, he⟩, hfb⟩ := hok'
  obtain ⟨hn, hlen, -⟩ := flowOk_parts hfl
  obtain ⟨n2, n5, hl7, hpo⟩ := netOk_parts hn
  have hpos : leftN2 xs (exc j ps xs) < 10 := by
    have := pos_le (xs := xs)
    unfold leftN2
    split <;> omega
  obtain ⟨-, i0', i1', j0, j1, hij⟩ := ends_parts he
  obtain ⟨i0, hi0', hz0, hz1', hz2'⟩ := info_parts int_info
  obtain ⟨iS, hiS, hS0, hS1, hS2⟩ := info_parts ints_info
  have HP := Lib.hid (And.intro hn (And.intro hl7 (And.intro hst (And.intro hl0 (And.intro hpos hfl)))))
  have bx0 := Box2.new w (.int .i64 n) (.slice A ps.length c) 25
  clear hok hst hpos hlen hn hpo hfb
  go_enter Tryz.func32, Tryz.ntmps32
  go_wp2_with fail
  refine (specFlowOk_any n _ _ ps xs b b' _ (hp0.keep (by (repeat (first | (with_reducible assumption) | (with_reducible exact Below.refl _ _) | ((with_reducible refine Below.alloc ?_ ?hsz _); (case hsz => (first | omega | (simp; done) | (simp; omega) | (simp at *; omega)))) | ((with_reducible refine Below.setCell ?_ ?hsz _); (case hsz => (first | omega | (simp; done) | (simp; omega) | (simp at *; omega)))) | (with_reducible refine Below.drew ?_) | (with_reducible refine below_drewN ?_ _) | ((with_reducible refine Below.trans ?_ (Below.mono (by with_reducible assumption) ?hsz)); (case hsz => (first | omega | (simp; done) | (simp; omega) | (simp at *; omega)))))))) (hx0.keep (by (repeat (first | (with_reducible assumption) | (with_reducible exact Below.refl _ _) | ((with_reducible refine Below.alloc ?_ ?hsz _); (case hsz => (first | omega | (simp; done) | (simp; omega) | (simp at *; omega)))) | ((with_reducible refine Below.setCell ?_ ?hsz _); (case hsz => (first | omega | (simp; done) | (simp; omega) | (simp at *; omega)))) | (with_reducible refine Below.drew ?_) | (with_reducible refine below_drewN ?_ _) | ((with_reducible refine Below.trans ?_ (Below.mono (by with_reducible assumption) ?hsz)); (case hsz => (first | omega | (simp; done) | (simp; omega) | (simp at *; omega))))))))).mono ?_
  rintro e w1 ⟨rfl, hb1⟩
  rw [hfl]
  have bx1 := bx0.keep hb1
  have hB1 : Below w.heap.size w w1 := by (repeat (first | (with_reducible assumption) | (with_reducible exact Below.refl _ _) | ((with_reducible refine Below.alloc ?_ ?hsz _); (case hsz => (first | omega | (simp; done) | (simp; omega) | (simp at *; omega)))) | ((with_reducible refine Below.setCell ?_ ?hsz _); (case hsz => (first | omega | (simp; done) | (simp; omega) | (simp at *; omega)))) | (with_reducible refine Below.drew ?_) | (with_reducible refine below_drewN ?_ _) | ((with_reducible refine Below.trans ?_ (Below.mono (by with_reducible assumption) ?hsz)); (case hsz => (first | omega | (simp; done) | (simp; omega) | (simp at *; omega))))))
  clear bx0 hb1
  obtain ⟨bs, d0, d1, -, -⟩ := id bx1
  go_wp2_with fail
  refine (ends_any n i j _ ps b _ ((hp0.keep hB1).keep (by (repeat (first | (with_reducible assumption) | (with_reducible exact Below.refl _ _) | ((with_reducible refine Below.alloc ?_ ?hsz _); (case hsz => (first | omega | (simp; done) | (simp; omega) | (simp at *; omega)))) | ((with_reducible refine Below.setCell ?_ ?hsz _); (case hsz => (first | omega | (simp; done) | (simp; omega) | (simp at *; omega)))) | (with_reducible refine Below.drew ?_) | (with_reducible refine below_drewN ?_ _) | ((with_reducible refine Below.trans ?_ (Below.mono (by with_reducible assumption) ?hsz)); (case hsz => (first | omega | (simp; done) | (simp; omega) | (simp at *; omega))))))))).mono ?_
  rintro e w2 ⟨rfl, hb2⟩
  rw [he]
  have bx2 := bx1.keep hb2
  have hB2 : Below w.heap.size w w2 := by (repeat (first | (with_reducible assumption) | (with_reducible exact Below.refl _ _) | ((with_reducible refine Below.alloc ?_ ?hsz _); (case hsz => (first | omega | (simp; done) | (simp; omega) | (simp at *; omega)))) | ((with_reducible refine Below.setCell ?_ ?hsz _); (case hsz => (first | omega | (simp; done) | (simp; omega) | (simp at *; omega)))) | (with_reducible refine Below.drew ?_) | (with_reducible refine below_drewN ?_ _) | ((with_reducible refine Below.trans ?_ (Below.mono (by with_reducible assumption) ?hsz)); (case hsz => (first | omega | (simp; done) | (simp; omega) | (simp at *; omega))))))
  clear bx1 hb2 d0 d1 bs
  obtain ⟨bs, d0, d1, -, -⟩ := id bx2
  go_wp2
  go_loopw [10] (fun t wr => ∃ k : Nat, (k : Int) ≤ n ∧ t = .int .i64 k ∧ Box2 wr w.heap.size (.int .i64 n) (.slice A ps.length c) ∧ Below w.heap.size w wr) (fun t _ => (n - intOf t).toNat)
  case atStart => exact ⟨0, by omega, rfl, bx2, hB2⟩
  case round =>
    clear bx2 d0 d1 bs
    obtain ⟨k, hk, rfl, bx, hB⟩ := hrel
    obtain ⟨bs, d0, d1, -, -⟩ := id bx
    by_cases hlt : (k : Int) < n
    · have hltd : decide ((k : Int) < n) = true := decide_eq_true hlt
      by_cases hi : (k : Int) = i
      · have hib : ((k : Int) != i) = false := by simp [hi]
        clear hi
        go_wp2
        go_roundw
        case rel => exact ⟨k + 1, by omega, by go_num, bx, hB⟩
        case measure => simp [intOf]; omega
      · have hib : ((k : Int) != i) = true := by simpa using hi
        have HI := Lib.hid hi
        clear hi
        by_cases hj : (k : Int) = j
        · have hjb : ((k : Int) != j) = false := by simp [hj]
          clear hj
          go_wp2
          go_roundw
          case rel => exact ⟨k + 1, by omega, by go_num, bx, hB⟩
          case measure => simp [intOf]; omega
        · have hjb : ((k : Int) != j) = true := by simpa using hj
          have he0 := HP.out.2.2.1.two (k : Int) (by omega) hlt HI.out hj
          have heb : (exc (k : Int) ps xs != 0) = false := by simp [he0]
          clear hj he0
          go_wp2_with fail
          refine (specExcess_any (k : Int) n _ _ ps xs b b' _ ((hp0.keep hB).keep (by (repeat (first | (with_reducible assumption) | (with_reducible exact Below.refl _ _) | ((with_reducible refine Below.alloc ?_ ?hsz _); (case hsz => (first | omega | (simp; done) | (simp; omega) | (simp at *; omega)))) | ((with_reducible refine Below.setCell ?_ ?hsz _); (case hsz => (first | omega | (simp; done) | (simp; omega) | (simp at *; omega)))) | (with_reducible refine Below.drew ?_) | (with_reducible refine below_drewN ?_ _) | ((with_reducible refine Below.trans ?_ (Below.mono (by with_reducible assumption) ?hsz)); (case hsz => (first | omega | (simp; done) | (simp; omega) | (simp at *; omega)))))))) ((hx0.keep hB).keep (by (repeat (first | (with_reducible assumption) | (with_reducible exact Below.refl _ _) | ((with_reducible refine Below.alloc ?_ ?hsz _); (case hsz => (first | omega | (simp; done) | (simp; omega) | (simp at *; omega)))) | ((with_reducible refine Below.setCell ?_ ?hsz _); (case hsz => (first | omega | (simp; done) | (simp; omega) | (simp at *; omega)))) | (with_reducible refine Below.drew ?_) | (with_reducible refine below_drewN ?_ _) | ((with_reducible refine Below.trans ?_ (Below.mono (by with_reducible assumption) ?hsz)); (case hsz => (first | omega | (simp; done) | (simp; omega) | (simp at *; omega)))))))) HP.out.2.2.2.2.2).mono ?_
          rintro e w5 ⟨rfl, hb5⟩
          have bx5 := bx.keep hb5
          have hB5 : Below w.heap.size w w5 := by (repeat (first | (with_reducible assumption) | (with_reducible exact Below.refl _ _) | ((with_reducible refine Below.alloc ?_ ?hsz _); (case hsz => (first | omega | (simp; done) | (simp; omega) | (simp at *; omega)))) | ((with_reducible refine Below.setCell ?_ ?hsz _); (case hsz => (first | omega | (simp; done) | (simp; omega) | (simp at *; omega)))) | (with_reducible refine Below.drew ?_) | (with_reducible refine below_drewN ?_ _) | ((with_reducible refine Below.trans ?_ (Below.mono (by with_reducible assumption) ?hsz)); (case hsz => (first | omega | (simp; done) | (simp; omega) | (simp at *; omega))))))
          clear bx hb5 d0 d1 bs
          go_wp2
          go_roundw
          case rel => exact ⟨k + 1, by omega, by go_num, bx5, hB5⟩
          case measure => simp [intOf]; omega
    · have hltd : decide ((k : Int) < n) = false := decide_eq_false hlt
      go_wp2_with fail
      refine (specExcess_any j n _ _ ps xs b b' _ ((hp0.keep hB).keep (by (repeat (first | (with_reducible assumption) | (with_reducible exact Below.refl _ _) | ((with_reducible refine Below.alloc ?_ ?hsz _); (case hsz => (first | omega | (simp; done) | (simp; omega) | (simp at *; omega)))) | ((with_reducible refine Below.setCell ?_ ?hsz _); (case hsz => (first | omega | (simp; done) | (simp; omega) | (simp at *; omega)))) | (with_reducible refine Below.drew ?_) | (with_reducible refine below_drewN ?_ _) | ((with_reducible refine Below.trans ?_ (Below.mono (by with_reducible assumption) ?hsz)); (case hsz => (first | omega | (simp; done) | (simp; omega) | (simp at *; omega)))))))) ((hx0.keep hB).keep (by (repeat (first | (with_reducible assumption) | (with_reducible exact Below.refl _ _) | ((with_reducible refine Below.alloc ?_ ?hsz _); (case hsz => (first | omega | (simp; done) | (simp; omega) | (simp at *; omega)))) | ((with_reducible refine Below.setCell ?_ ?hsz _); (case hsz => (first | omega | (simp; done) | (simp; omega) | (simp at *; omega)))) | (with_reducible refine Below.drew ?_) | (with_reducible refine below_drewN ?_ _) | ((with_reducible refine Below.trans ?_ (Below.mono (by with_reducible assumption) ?hsz)); (case hsz => (first | omega | (simp; done) | (simp; omega) | (simp at *; omega)))))))) HP.out.2.2.2.2.2).mono ?_
      rintro e w4 ⟨rfl, hb4⟩
      have bx4 := bx.keep hb4
      have hB4 : Below w.heap.size w w4 := by (repeat (first | (with_reducible assumption) | (with_reducible exact Below.refl _ _) | ((with_reducible refine Below.alloc ?_ ?hsz _); (case hsz => (first | omega | (simp; done) | (simp; omega) | (simp at *; omega)))) | ((with_reducible refine Below.setCell ?_ ?hsz _); (case hsz => (first | omega | (simp; done) | (simp; omega) | (simp at *; omega)))) | (with_reducible refine Below.drew ?_) | (with_reducible refine below_drewN ?_ _) | ((with_reducible refine Below.trans ?_ (Below.mono (by with_reducible assumption) ?hsz)); (case hsz => (first | omega | (simp; done) | (simp; omega) | (simp at *; omega))))))
      clear bx hb4 d0 d1 bs hB1 hB2 hB hltd hlt hk
      obtain ⟨bs, d0, d1, -, -⟩ := id bx4
      have hnn : decide (exc j ps xs < 0) = false := decide_eq_false (by omega)
      obtain ⟨lf0, hlf⟩ : ∃ l, exc j ps xs = l := ⟨_, rfl⟩
      have HLF := Lib.hid hlf
      rw [hlf] at Hyes hnn ⊢
      have hO0 : OwnRows (w4.alloc (.cells #[] 30)) (w.heap.size + 1) w4.heap.size 0 [] := by
        have h := World.ownsRow_lit (e := 30) (base := w.heap.size + 1) (size := 1) w4 #[] 0 (by omega) (by simp [maxLen]) rfl
        exact ⟨[], rfl, h, by simp [small], fun k hk => absurd hk (by simp)⟩
      clear hlf hl0
      go_wp2
      go_loopw [1, 12, 11] (fun t1 t12 t11 wr => ∃ (f N cap g : Nat) (Ls : List (List Int)) (ys : List Int) (bf : Nat) (fl : Value) (left : Int), t1 = fl ∧ Ints wr bf fl ys ∧ PartSt n ps ys i j left ∧ 0 ≤ left ∧ leftN2 ys left < f ∧ Ls.length + f ≤ 10 ∧ N = Ls.length ∧ t12 = .slice (some ⟨g, 0, none⟩) N cap ∧ OwnRows wr (w.heap.size + 1) g cap Ls ∧ Ls ++ partsP ps i j f left ys = partsR n ps xs i j ∧ t11 = .int .i64 left ∧ Box2 wr w.heap.size (.int .i64 n) (.slice A ps.length c) ∧ Below w.heap.size w wr) (fun _ t12 _ _ => 11 - sliceLen t12)
      case atStart => exact ⟨10, 0, 0, w4.heap.size, [], xs, b', _, lf0, rfl, (hx0.keep hB4).keep (by (repeat (first | (with_reducible assumption) | (with_reducible exact Below.refl _ _) | ((with_reducible refine Below.alloc ?_ ?hsz _); (case hsz => (first | omega | (simp; done) | (simp; omega) | (simp at *; omega)))) | ((with_reducible refine Below.setCell ?_ ?hsz _); (case hsz => (first | omega | (simp; done) | (simp; omega) | (simp at *; omega)))) | (with_reducible refine Below.drew ?_) | (with_reducible refine below_drewN ?_ _) | ((with_reducible refine Below.trans ?_ (Below.mono (by with_reducible assumption) ?hsz)); (case hsz => (first | omega | (simp; done) | (simp; omega) | (simp at *; omega))))))), by rw [← HLF.out]; exact HP.out.2.2.1, by rw [← HLF.out]; exact HP.out.2.2.2.1, by rw [← HLF.out]; exact HP.out.2.2.2.2.1, by simp, rfl, rfl, hO0, by rw [Hyes.out]; rfl, rfl, bx4.keep (by (repeat (first | (with_reducible assumption) | (with_reducible exact Below.refl _ _) | ((with_reducible refine Below.alloc ?_ ?hsz _); (case hsz => (first | omega | (simp; done) | (simp; omega) | (simp at *; omega)))) | ((with_reducible refine Below.setCell ?_ ?hsz _); (case hsz => (first | omega | (simp; done) | (simp; omega) | (simp at *; omega)))) | (with_reducible refine Below.drew ?_) | (with_reducible refine below_drewN ?_ _) | ((with_reducible refine Below.trans ?_ (Below.mono (by with_reducible assumption) ?hsz)); (case hsz => (first | omega | (simp; done) | (simp; omega) | (simp at *; omega))))))), by (repeat (first | (with_reducible assumption) | (with_reducible exact Below.refl _ _) | ((with_reducible refine Below.alloc ?_ ?hsz _); (case hsz => (first | omega | (simp; done) | (simp; omega) | (simp at *; omega)))) | ((with_reducible refine Below.setCell ?_ ?hsz _); (case hsz => (first | omega | (simp; done) | (simp; omega) | (simp at *; omega)))) | (with_reducible refine Below.drew ?_) | (with_reducible refine below_drewN ?_ _) | ((with_reducible refine Below.trans ?_ (Below.mono (by with_reducible assumption) ?hsz)); (case hsz => (first | omega | (simp; done) | (simp; omega) | (simp at *; omega))))))⟩
      case round =>
        clear bx4 hB4 hx0 hx hO0 d0 d1 bs hnn
        obtain ⟨f, N, cap, g, Ls, ys, bf, fl, left, rfl, hy, hst, hl0, hpf, hLf, hN, rfl, hO, hcat, rfl, bx, hB⟩ := hrel
        obtain ⟨AY, cY, rfl, hcy1, hcy2, -, -⟩ := hy.form
        unfold maxLen at hcy2
        have hyl := (flowOk_parts hst.flow).2.1
        have hyb := flow_getD hst.flow
        obtain ⟨f, rfl⟩ : ∃ f', f = f' + 1 := ⟨f - 1, by omega⟩
        have HY := Lib.hid (And.intro hst (And.intro hpf (And.intro hLf (And.intro hN (And.intro hcat (And.intro hyl hyb))))))
        have Hl0 := Lib.hid hl0
        rw [hyl] at hcy1 hy ⊢
        have hzb := hB.size
        obtain ⟨bs, d0, d1, -, -⟩ := id bx
        have hbw := bs
        clear hst hpf hLf hN hcat hyl hyb hl0
        by_cases hleft : 0 < left
        · have hld : decide (0 < left) = true := decide_eq_true hleft
          obtain ⟨sne, snd, sop, s6, sD0, sD40, sL0, sst, sM⟩ := HY.out.1.step hleft
          have HON := Lib.hid (parts_on' (ps := ps) (a := i) (b := j) (xs := ys) (f := f) hleft)
          have sl1 := List.length_pos_iff.2 sne
          have hps : 0 < ps.length := by obtain ⟨q, hq⟩ := List.exists_mem_of_ne_nil _ sne; have := (sop q hq).1; omega
          have hlft : left ≤ 280 := by
            have h1 := exc_bd j ps ys (flowOk_parts HY.out.1.flow).2.2
            rw [HY.out.1.left] at h1
            have := HP.out.2.1
            omega
          obtain ⟨-, wop, hat, hw6⟩ : walkEnd ps ys (walkP ps ys i j) := go_ends (n := n) (fun p hp => by obtain ⟨-, -, p2, p3, -⟩ := pipeOk_parts ((netOk_parts HP.out.1).2.2.2 p hp); exact ⟨p2, p3⟩) n5 (by omega) 6 _ _ (walk_start i0' i1')
          have hDdef : (partD ps ys i j left = if 0 ≤ (walkP ps ys i j).2 then leastP ys (partP ps ys i j) else min (leastP ys (partP ps ys i j)) left) ∧ (partL ps ys i j left = if 0 ≤ (walkP ps ys i j).2 then left else left - partD ps ys i j left) := ⟨rfl, rfl⟩
          have hPdef : partP ps ys i j = (walkP ps ys i j).1.drop (walkP ps ys i j).2.toNat := rfl
          obtain ⟨PT, hPT⟩ : ∃ PT, partP ps ys i j = PT := ⟨_, rfl⟩
          obtain ⟨D, hD⟩ : ∃ D, partD ps ys i j left = D := ⟨_, rfl⟩
          obtain ⟨L2, hL2⟩ : ∃ L2, partL ps ys i j left = L2 := ⟨_, rfl⟩
          rw [hPT] at sne snd sop s6 sst sM sl1 hDdef hPdef HON
          rw [hD] at sD0 sD40 sst sM hDdef HON
          rw [hL2] at sL0 sst sM hDdef HON
          have HS := Lib.hid (And.intro snd (And.intro sop (And.intro sst (And.intro sM (And.intro hDdef sL0)))))
          clear sne snd sop sst sM hDdef hPT hD hL2 sL0
          go_wp2_with fail
          with_reducible refine (l4Walk_any n i j _ _ ps ys b bf _ ((hp0.keep hB).keep (by (repeat (first | (with_reducible assumption) | (with_reducible exact Below.refl _ _) | ((with_reducible refine Below.alloc ?_ ?hsz _); (case hsz => (first | omega | (simp; done) | (simp; omega) | (simp at *; omega)))) | ((with_reducible refine Below.setCell ?_ ?hsz _); (case hsz => (first | omega | (simp; done) | (simp; omega) | (simp at *; omega)))) | (with_reducible refine Below.drew ?_) | (with_reducible refine below_drewN ?_ _) | ((with_reducible refine Below.trans ?_ (Below.mono (by with_reducible assumption) ?hsz)); (case hsz => (first | omega | (simp; done) | (simp; omega) | (simp at *; omega)))))))) (hy.keep (by (repeat (first | (with_reducible assumption) | (with_reducible exact Below.refl _ _) | ((with_reducible refine Below.alloc ?_ ?hsz _); (case hsz => (first | omega | (simp; done) | (simp; omega) | (simp at *; omega)))) | ((with_reducible refine Below.setCell ?_ ?hsz _); (case hsz => (first | omega | (simp; done) | (simp; omega) | (simp at *; omega)))) | (with_reducible refine Below.drew ?_) | (with_reducible refine below_drewN ?_ _) | ((with_reducible refine Below.trans ?_ (Below.mono (by with_reducible assumption) ?hsz)); (case hsz => (first | omega | (simp; done) | (simp; omega) | (simp at *; omega)))))))) HY.out.2.2.2.2.2.1 HP.out.1 i0' i1').mono ?_
          rintro e w2 ⟨r, rfl, hr, hb2⟩
          have hO2 := hO.keep hb2
          have hy2 := hy.keep hb2
          have bx2 := bx.keep hb2
          have hB2 : Below w.heap.size w w2 := hB.trans (hb2.mono hzb)
          have hs2 := hb2.size
          have hz2 := hB2.size
          obtain ⟨WK, hWK⟩ : ∃ WK, (walkP ps ys i j).1 = WK := ⟨_, rfl⟩
          obtain ⟨at2, hat2⟩ : ∃ at2, (walkP ps ys i j).2 = at2 := ⟨_, rfl⟩
          rw [hWK] at hr hat hw6 hPdef wop
          rw [hat2] at hat hPdef HS ⊢
          have hWne : 0 < WK.length := by
            rcases Nat.eq_zero_or_pos WK.length with h0 | h0
            · exfalso
              have : PT = [] := by rw [hPdef, List.length_eq_zero_iff.1 h0]; simp
              rw [this] at sl1
              simp at sl1
            · exact h0
          have hnW : (natsI WK).length = WK.length := by simp
          obtain ⟨gr, cr, rfl, hRr⟩ := hr.row (by rw [hnW]; exact hWne)
          obtain ⟨or1, or2⟩ := hRr.lt
          obtain ⟨oc1, oc2⟩ := hRr.capd
          have oc2' := oc2
          rw [hnW] at hRr oc1 ⊢
          have hcells : ∀ o, o < WK.length → ∀ j (h : j < (natsI (WK.drop o)).length), w2.cell? ⟨gr, o + j, none⟩ = some (.int .i64 (natsI (WK.drop o))[j]) := by
            intro o ho j hj
            have hj2 : o + j < WK.length := by simp at hj; omega
            rw [(hRr.at' (o + j) hj2).1]
            simp [natsI, List.getD_eq_getElem?_getD, hj2]
          have HW := Lib.hid (And.intro hWK (And.intro hnW hcells))
          have hLW : Lies w2 (.slice (some ⟨gr, 0, none⟩) WK.length cr) (natsI WK) := ⟨gr, 0, cr, by rw [hnW], or2, by rw [hnW]; exact oc1, oc2', by have := hcells 0 hWne; simpa using this⟩
          clear hWK hat2 hnW hcells hr hRr hy hO bx hb2 d0 d1 bs
          unfold maxLen at oc2
          obtain ⟨bs, d0, d1, -, -⟩ := id bx2
          go_wp2_with fail
          refine (l4Least_any bf _ _ ys WK _ hy2 hLW (fun q' hq' => by have := (wop q' hq').1; rw [HY.out.2.2.2.2.2.1]; exact this) hw6).mono ?_
          rintro e w3 ⟨rfl, hb3⟩
          have hy3 := hy2.keep hb3
          have hL3 := hLW.keep hb3
          have hO3 := hO2.keep hb3
          have bx3 := bx2.keep hb3
          have hB3 : Below w.heap.size w w3 := hB2.trans (hb3.mono hz2)
          have hs3 := hb3.size
          have hz3 := hB3.size
          have hc3 : ∀ o, o < WK.length → ∀ j (h : j < (natsI (WK.drop o)).length), w3.cell? ⟨gr, o + j, none⟩ = some (.int .i64 (natsI (WK.drop o))[j]) := fun o ho j hj => (hb3.cell (p := ⟨gr, o + j, none⟩) or2).trans (HW.out.2.2 o ho j hj)
          have HC3 := Lib.hid hc3
          clear hy2 hLW hO2 bx2 hb3 d0 d1 bs hc3
          obtain ⟨bs, d0, d1, -, -⟩ := id bx3
          have hlw40 : leastP ys WK ≤ 40 := (leastF (xs := ys) WK 40).1
          obtain ⟨lw, hlw⟩ : ∃ lw, leastP ys WK = lw := ⟨_, rfl⟩
          rw [hlw] at hlw40 ⊢
          have HLW := Lib.hid hlw
          clear hlw
          rcases hat with rfl | ⟨ha0, ha1⟩
          · have hPW : PT = WK := by rw [hPdef]; simp
            have hD1 : D = min lw left := by
              have := HS.out.2.2.2.2.1.1
              rw [if_neg (by omega), hPW, HLW.out] at this
              exact this
            have hD2 : L2 = left - D := by
              have := HS.out.2.2.2.2.1.2
              rwa [if_neg (by omega)] at this
            subst hPW
            have hml : (natsI PT).length = PT.length := HW.out.2.1
            have hm0 : 0 < PT.length := hWne
            have hy6 := hy3
            have hL6 := hL3
            have hO6 := hO3
            have bx6 := bx3
            have hB6 := hB3
            have hz6 := hz3
            clear hy3 hL3 hO3 bx3 hB3 hz3 hPdef
            by_cases hm : lw ≤ left
            · have eD : lw = D := by omega
              subst eD
              have eL : L2 = left - lw := hD2
              clear hD1 hD2
              go_wp2_with fail
              refine (l4Less_any bf (lw) _ _ ys PT _ hy6 hL6 (fun q' hq' => by have := (HS.out.2.1 q' hq').1; rw [HY.out.2.2.2.2.2.1]; exact this) s6 HS.out.1 HY.out.2.2.2.2.2.2 (by omega) (by rw [HY.out.2.2.2.2.2.1]; omega)).mono ?_
              rintro e w7 ⟨r7, rfl, hr7, hb7⟩
              have hlen7 : (lessP (lw) ys PT).length = ps.length := by rw [less_len]; exact HY.out.2.2.2.2.2.1
              obtain ⟨A4, c4, rfl, -, -, -, -⟩ := hr7.form
              rw [hlen7] at hr7 ⊢
              have hL7 := (hL6.keep hb7).keep (w' := w7.alloc (.cells #[.int .i64 (lw)] 3)) (by (repeat (first | (with_reducible assumption) | (with_reducible exact Below.refl _ _) | ((with_reducible refine Below.alloc ?_ ?hsz _); (case hsz => (first | omega | (simp; done) | (simp; omega) | (simp at *; omega)))) | ((with_reducible refine Below.setCell ?_ ?hsz _); (case hsz => (first | omega | (simp; done) | (simp; omega) | (simp at *; omega)))) | (with_reducible refine Below.drew ?_) | (with_reducible refine below_drewN ?_ _) | ((with_reducible refine Below.trans ?_ (Below.mono (by with_reducible assumption) ?hsz)); (case hsz => (first | omega | (simp; done) | (simp; omega) | (simp at *; omega)))))))
              have hO7 := hO6.keep hb7
              have bx7 := bx6.keep hb7
              have hB7 : Below w.heap.size w w7 := hB6.trans (hb7.mono hz6)
              have hs7 := hb7.size
              have hz7 := hB7.size
              obtain ⟨g9, o9, c9, hv9, -, -, -, hc9⟩ := hL7
              injection hv9 with e1 e2 e3
              injection e1 with e1
              injection e1 with e1 e4
              subst e1
              subst e4
              have hnews := news_lies hc9
              have hownL := World.ownsRow_lit (e := 3) (base := w7.heap.size) (size := 1) w7 #[.int .i64 (lw)] 1 (Nat.le_refl _) (by simp [maxLen]) rfl
              obtain ⟨vs, v1, v2, v3, v4⟩ := hO7
              have hN := HY.out.2.2.2.1
              have hg1 := (v2.lt g rfl).1
              rw [← hN] at v2 v3
              have hLf := HY.out.2.2.1
              rw [← hN] at hLf
              have V4 := Lib.hid v4
              have V1 := Lib.hid v1
              have hdl := hml
              clear v4 v1 hN hlen7 hb7 hc9 e2 e3 bx6 d0 d1 bs
              go_wp2_with (first
                | (at_builtin
                   (refine wpList_append_lies _ rfl _ _ 30 rfl w7.heap.size 3 i0 _ 1 8 Tryz.underlying30 hi0' hz0 hz1' hz2' rfl (by omega) (.slice (some ⟨w7.heap.size, 0, none⟩) 1 1) 1 [.int .i64 (lw)] rfl hownL ⟨gr, 0, none⟩ (PT.length) (cr) ((natsI PT).map (Value.int .i64)) rfl (by rw [List.length_map, Nat.mul_one]; exact hdl) hnews (by intro u' hu'; obtain ⟨y', -, rfl⟩ := List.mem_map.1 hu'; rfl) hm0 (by unfold maxLen; omega) (by omega) (by simp) _ rfl ?_)
                   intro g5 k5 w8 hown8 hgr8 hat8 hlt8
                   have hB8 : Below w7.heap.size w7 w8 := Below.grown (w := w7.alloc (.cells #[.int .i64 (lw)] 3)) (by (repeat (first | (with_reducible assumption) | (with_reducible exact Below.refl _ _) | ((with_reducible refine Below.alloc ?_ ?hsz _); (case hsz => (first | omega | (simp; done) | (simp; omega) | (simp at *; omega)))) | ((with_reducible refine Below.setCell ?_ ?hsz _); (case hsz => (first | omega | (simp; done) | (simp; omega) | (simp at *; omega)))) | (with_reducible refine Below.drew ?_) | (with_reducible refine below_drewN ?_ _) | ((with_reducible refine Below.trans ?_ (Below.mono (by with_reducible assumption) ?hsz)); (case hsz => (first | omega | (simp; done) | (simp; omega) | (simp at *; omega))))))) hgr8 (by (first | omega | (simp; done) | (simp; omega) | (simp at *; omega))) (fun q hq => by have hq' : w7.heap.size = q := (by injection hq); omega)
                   have hs8 := hB8.size
                   have hO8 := (own_keep v2 (Nat.le_refl _) hB8).alloc (.cells #[.slice (some ⟨g5, 0, none⟩) (1 + (PT.length)) k5] 30))
                | (at_builtin
                   (refine wpList_append_lies _ rfl _ _ 28 rfl (w.heap.size + 1) 30 iS _ 1 24 Tryz.underlying28 hiS hS0 hS1 hS2 rfl (by omega) (.slice (some ⟨g, 0, none⟩) N cap) N vs rfl hO8 ⟨w8.heap.size, 0, none⟩ 1 1 [.slice (some ⟨g5, 0, none⟩) (1 + (PT.length)) k5] rfl rfl (World.news_of_block (cs := #[.slice (some ⟨g5, 0, none⟩) (1 + (PT.length)) k5]) (t := 30) (fr := (0, 0)) (heap_alloc_new _ _)) (by simp [Value.oneCell']) (by omega) (by unfold maxLen; omega) (by omega) (by simp; omega) _ rfl ?_)
                   intro g6 k6 w9 hown9 hgr9 hat9 hlt9))
              have hI8 : Ints w8 w7.heap.size (.slice (some ⟨g5, 0, none⟩) (1 + (PT.length)) k5) ((lw) :: natsI PT) := ⟨by rw [show ((lw) :: natsI PT).length = 1 + (PT.length) by rw [List.length_cons, hdl]; omega]; exact hown8, by rw [List.length_cons, hdl]; unfold small; omega⟩
              have hI8' := (hI8.mono (b' := w.heap.size + 1) (by omega)).alloc1 (.cells #[.slice (some ⟨g5, 0, none⟩) (1 + (PT.length)) k5] 30)
              have hr9 := ((hr7.keep hB8).alloc1 (.cells #[.slice (some ⟨g5, 0, none⟩) (1 + (PT.length)) k5] 30)).other hO8 hgr9
              have hN := HY.out.2.2.2.1
              have hO9 : OwnRows w9 (w.heap.size + 1) g6 k6 (Ls ++ [(lw) :: natsI PT]) := rows_snoc V1.out (by rw [← hN]; exact hO8) (fun k hk hk' => ((V4.out k hk hk').keep hB8).alloc1 _) hI8' (by unfold small; omega) hgr9 (by rw [← hN]; exact hown9)
              have bx9 := ((bx7.keep hB8).keep (w' := w8.alloc (.cells #[.slice (some ⟨g5, 0, none⟩) (1 + (PT.length)) k5] 30)) (by (repeat (first | (with_reducible assumption) | (with_reducible exact Below.refl _ _) | ((with_reducible refine Below.alloc ?_ ?hsz _); (case hsz => (first | omega | (simp; done) | (simp; omega) | (simp at *; omega)))) | ((with_reducible refine Below.setCell ?_ ?hsz _); (case hsz => (first | omega | (simp; done) | (simp; omega) | (simp at *; omega)))) | (with_reducible refine Below.drew ?_) | (with_reducible refine below_drewN ?_ _) | ((with_reducible refine Below.trans ?_ (Below.mono (by with_reducible assumption) ?hsz)); (case hsz => (first | omega | (simp; done) | (simp; omega) | (simp at *; omega)))))))).grown hgr9 (by intro hh; have hh2 : w.heap.size = g := (by injection hh); omega)
              have hB9 : Below w.heap.size w w9 := Below.grown (w := w8.alloc (.cells #[.slice (some ⟨g5, 0, none⟩) (1 + (PT.length)) k5] 30)) (Below.alloc (hB7.trans (hB8.mono (by omega))) (by omega) _) hgr9 (by simp; omega) (fun q hq => by have hq' : g = q := (by injection hq); omega)
              have hfin : (Ls ++ [(lw) :: natsI PT]) ++ partsP ps i j f L2 (lessP (lw) ys PT) = partsR n ps xs i j := by
                rw [← HY.out.2.2.2.2.1, HON.out, List.append_assoc]
                simp
              have hM9 : leftN2 (lessP (lw) ys PT) L2 < f := by
                have h1 := HS.out.2.2.2.1
                have h2 := HY.out.2.1
                omega
              have hNN := Lib.hid hN
              have HF := Lib.hid (And.intro hfin (And.intro hM9 eL))
              clear hown8 hgr8 hat8 hown9 hgr9 hat9 hN hfin hM9 eL
              go_roundw
              case rel => exact ⟨f, N + 1, k6, g6, Ls ++ [(lw) :: natsI PT], lessP (lw) ys PT, _, _, L2, rfl, hr9, HS.out.2.2.1, HS.out.2.2.2.2.2, HF.out.2.1, by have hN := hNN.out; rw [List.length_append, ← hN]; simp; omega, by rw [List.length_append, ← hNN.out]; rfl, rfl, hO9, HF.out.1, by (first | (rw [HF.out.2.2]; done) | (rw [HF.out.2.2]; simp)), bx9, hB9⟩
              case measure => simp [sliceLen]; omega
            · have eD : left = D := by omega
              have eL : L2 = left - left := by omega
              have hm2 : ¬ lw ≤ left := hm
              subst eD
              clear hD1 hD2
              go_wp2_with fail
              refine (l4Less_any bf (left) _ _ ys PT _ hy6 hL6 (fun q' hq' => by have := (HS.out.2.1 q' hq').1; rw [HY.out.2.2.2.2.2.1]; exact this) s6 HS.out.1 HY.out.2.2.2.2.2.2 (by omega) (by rw [HY.out.2.2.2.2.2.1]; omega)).mono ?_
              rintro e w7 ⟨r7, rfl, hr7, hb7⟩
              have hlen7 : (lessP (left) ys PT).length = ps.length := by rw [less_len]; exact HY.out.2.2.2.2.2.1
              obtain ⟨A4, c4, rfl, -, -, -, -⟩ := hr7.form
              rw [hlen7] at hr7 ⊢
              have hL7 := (hL6.keep hb7).keep (w' := w7.alloc (.cells #[.int .i64 (left)] 3)) (by (repeat (first | (with_reducible assumption) | (with_reducible exact Below.refl _ _) | ((with_reducible refine Below.alloc ?_ ?hsz _); (case hsz => (first | omega | (simp; done) | (simp; omega) | (simp at *; omega)))) | ((with_reducible refine Below.setCell ?_ ?hsz _); (case hsz => (first | omega | (simp; done) | (simp; omega) | (simp at *; omega)))) | (with_reducible refine Below.drew ?_) | (with_reducible refine below_drewN ?_ _) | ((with_reducible refine Below.trans ?_ (Below.mono (by with_reducible assumption) ?hsz)); (case hsz => (first | omega | (simp; done) | (simp; omega) | (simp at *; omega)))))))
              have hO7 := hO6.keep hb7
              have bx7 := bx6.keep hb7
              have hB7 : Below w.heap.size w w7 := hB6.trans (hb7.mono hz6)
              have hs7 := hb7.size
              have hz7 := hB7.size
              obtain ⟨g9, o9, c9, hv9, -, -, -, hc9⟩ := hL7
              injection hv9 with e1 e2 e3
              injection e1 with e1
              injection e1 with e1 e4
              subst e1
              subst e4
              have hnews := news_lies hc9
              have hownL := World.ownsRow_lit (e := 3) (base := w7.heap.size) (size := 1) w7 #[.int .i64 (left)] 1 (Nat.le_refl _) (by simp [maxLen]) rfl
              obtain ⟨vs, v1, v2, v3, v4⟩ := hO7
              have hN := HY.out.2.2.2.1
              have hg1 := (v2.lt g rfl).1
              rw [← hN] at v2 v3
              have hLf := HY.out.2.2.1
              rw [← hN] at hLf
              have V4 := Lib.hid v4
              have V1 := Lib.hid v1
              have hdl := hml
              clear v4 v1 hN hlen7 hb7 hc9 e2 e3 bx6 d0 d1 bs
              go_wp2_with (first
                | (at_builtin
                   (refine wpList_append_lies _ rfl _ _ 30 rfl w7.heap.size 3 i0 _ 1 8 Tryz.underlying30 hi0' hz0 hz1' hz2' rfl (by omega) (.slice (some ⟨w7.heap.size, 0, none⟩) 1 1) 1 [.int .i64 (left)] rfl hownL ⟨gr, 0, none⟩ (PT.length) (cr) ((natsI PT).map (Value.int .i64)) rfl (by rw [List.length_map, Nat.mul_one]; exact hdl) hnews (by intro u' hu'; obtain ⟨y', -, rfl⟩ := List.mem_map.1 hu'; rfl) hm0 (by unfold maxLen; omega) (by omega) (by simp) _ rfl ?_)
                   intro g5 k5 w8 hown8 hgr8 hat8 hlt8
                   have hB8 : Below w7.heap.size w7 w8 := Below.grown (w := w7.alloc (.cells #[.int .i64 (left)] 3)) (by (repeat (first | (with_reducible assumption) | (with_reducible exact Below.refl _ _) | ((with_reducible refine Below.alloc ?_ ?hsz _); (case hsz => (first | omega | (simp; done) | (simp; omega) | (simp at *; omega)))) | ((with_reducible refine Below.setCell ?_ ?hsz _); (case hsz => (first | omega | (simp; done) | (simp; omega) | (simp at *; omega)))) | (with_reducible refine Below.drew ?_) | (with_reducible refine below_drewN ?_ _) | ((with_reducible refine Below.trans ?_ (Below.mono (by with_reducible assumption) ?hsz)); (case hsz => (first | omega | (simp; done) | (simp; omega) | (simp at *; omega))))))) hgr8 (by (first | omega | (simp; done) | (simp; omega) | (simp at *; omega))) (fun q hq => by have hq' : w7.heap.size = q := (by injection hq); omega)
                   have hs8 := hB8.size
                   have hO8 := (own_keep v2 (Nat.le_refl _) hB8).alloc (.cells #[.slice (some ⟨g5, 0, none⟩) (1 + (PT.length)) k5] 30))
                | (at_builtin
                   (refine wpList_append_lies _ rfl _ _ 28 rfl (w.heap.size + 1) 30 iS _ 1 24 Tryz.underlying28 hiS hS0 hS1 hS2 rfl (by omega) (.slice (some ⟨g, 0, none⟩) N cap) N vs rfl hO8 ⟨w8.heap.size, 0, none⟩ 1 1 [.slice (some ⟨g5, 0, none⟩) (1 + (PT.length)) k5] rfl rfl (World.news_of_block (cs := #[.slice (some ⟨g5, 0, none⟩) (1 + (PT.length)) k5]) (t := 30) (fr := (0, 0)) (heap_alloc_new _ _)) (by simp [Value.oneCell']) (by omega) (by unfold maxLen; omega) (by omega) (by simp; omega) _ rfl ?_)
                   intro g6 k6 w9 hown9 hgr9 hat9 hlt9))
              have hI8 : Ints w8 w7.heap.size (.slice (some ⟨g5, 0, none⟩) (1 + (PT.length)) k5) ((left) :: natsI PT) := ⟨by rw [show ((left) :: natsI PT).length = 1 + (PT.length) by rw [List.length_cons, hdl]; omega]; exact hown8, by rw [List.length_cons, hdl]; unfold small; omega⟩
              have hI8' := (hI8.mono (b' := w.heap.size + 1) (by omega)).alloc1 (.cells #[.slice (some ⟨g5, 0, none⟩) (1 + (PT.length)) k5] 30)
              have hr9 := ((hr7.keep hB8).alloc1 (.cells #[.slice (some ⟨g5, 0, none⟩) (1 + (PT.length)) k5] 30)).other hO8 hgr9
              have hN := HY.out.2.2.2.1
              have hO9 : OwnRows w9 (w.heap.size + 1) g6 k6 (Ls ++ [(left) :: natsI PT]) := rows_snoc V1.out (by rw [← hN]; exact hO8) (fun k hk hk' => ((V4.out k hk hk').keep hB8).alloc1 _) hI8' (by unfold small; omega) hgr9 (by rw [← hN]; exact hown9)
              have bx9 := ((bx7.keep hB8).keep (w' := w8.alloc (.cells #[.slice (some ⟨g5, 0, none⟩) (1 + (PT.length)) k5] 30)) (by (repeat (first | (with_reducible assumption) | (with_reducible exact Below.refl _ _) | ((with_reducible refine Below.alloc ?_ ?hsz _); (case hsz => (first | omega | (simp; done) | (simp; omega) | (simp at *; omega)))) | ((with_reducible refine Below.setCell ?_ ?hsz _); (case hsz => (first | omega | (simp; done) | (simp; omega) | (simp at *; omega)))) | (with_reducible refine Below.drew ?_) | (with_reducible refine below_drewN ?_ _) | ((with_reducible refine Below.trans ?_ (Below.mono (by with_reducible assumption) ?hsz)); (case hsz => (first | omega | (simp; done) | (simp; omega) | (simp at *; omega)))))))).grown hgr9 (by intro hh; have hh2 : w.heap.size = g := (by injection hh); omega)
              have hB9 : Below w.heap.size w w9 := Below.grown (w := w8.alloc (.cells #[.slice (some ⟨g5, 0, none⟩) (1 + (PT.length)) k5] 30)) (Below.alloc (hB7.trans (hB8.mono (by omega))) (by omega) _) hgr9 (by simp; omega) (fun q hq => by have hq' : g = q := (by injection hq); omega)
              have hfin : (Ls ++ [(left) :: natsI PT]) ++ partsP ps i j f L2 (lessP (left) ys PT) = partsR n ps xs i j := by
                rw [← HY.out.2.2.2.2.1, HON.out, List.append_assoc]
                simp
              have hM9 : leftN2 (lessP (left) ys PT) L2 < f := by
                have h1 := HS.out.2.2.2.1
                have h2 := HY.out.2.1
                omega
              have hNN := Lib.hid hN
              have HF := Lib.hid (And.intro hfin (And.intro hM9 eL))
              clear hown8 hgr8 hat8 hown9 hgr9 hat9 hN hfin hM9 eL
              go_roundw
              case rel => exact ⟨f, N + 1, k6, g6, Ls ++ [(left) :: natsI PT], lessP (left) ys PT, _, _, L2, rfl, hr9, HS.out.2.2.1, HS.out.2.2.2.2.2, HF.out.2.1, by have hN := hNN.out; rw [List.length_append, ← hN]; simp; omega, by rw [List.length_append, ← hNN.out]; rfl, rfl, hO9, HF.out.1, by (first | (rw [HF.out.2.2]; done) | (rw [HF.out.2.2]; simp)), bx9, hB9⟩
              case measure => simp [sliceLen]; omega
          · obtain ⟨q, rfl⟩ : ∃ q : Nat, at2 = (q : Int) := ⟨at2.toNat, by omega⟩
            have hPW : PT = WK.drop q := by rw [hPdef]; simp
            have hD1 : D = leastP ys PT := by
              have := HS.out.2.2.2.2.1.1
              rwa [if_pos ha0] at this
            have eL : L2 = left := by
              have := HS.out.2.2.2.2.1.2
              rwa [if_pos ha0] at this
            have hq1 : q < WK.length := by omega
            have hml : (natsI PT).length = WK.length - q := by rw [hPW]; simp
            have hL : Lies w3 (.slice (some ⟨gr, q, none⟩) (WK.length - q) (cr - q)) (natsI PT) := by
              rw [hPW]
              exact ⟨gr, q, cr - q, by simp, by omega, by simp; omega, by unfold maxLen; omega, HC3.out q hq1⟩
            have hm0 : 0 < WK.length - q := by omega
            have HD1 := Lib.hid hD1
            clear hPdef hPW hD1
            by_cases hm : lw ≤ left
            all_goals
              go_wp2_with fail
              all_goals
                refine (l4Least_any bf _ _ ys PT _ hy3 hL (fun q' hq' => by have := (HS.out.2.1 q' hq').1; rw [HY.out.2.2.2.2.2.1]; exact this) s6).mono ?_
                rintro e w4 ⟨rfl, hb4⟩
                rw [← HD1.out]
                have hy6 := hy3.keep hb4
                have hL6 := hL.keep hb4
                have hO6 := hO3.keep hb4
                have bx6 := bx3.keep hb4
                have hB6 : Below w.heap.size w w4 := hB3.trans (hb4.mono hz3)
                have hs4 := hb4.size
                have hz6 := hB6.size
                have or3 : gr < w4.heap.size := by omega
                clear hy3 hL hO3 bx3 hB3 hb4 d0 d1 bs
                obtain ⟨bs, d0, d1, -, -⟩ := id bx6
                go_wp2_with fail
                refine (l4Less_any bf (D) _ _ ys PT _ hy6 hL6 (fun q' hq' => by have := (HS.out.2.1 q' hq').1; rw [HY.out.2.2.2.2.2.1]; exact this) s6 HS.out.1 HY.out.2.2.2.2.2.2 (by omega) (by rw [HY.out.2.2.2.2.2.1]; omega)).mono ?_
                rintro e w7 ⟨r7, rfl, hr7, hb7⟩
                have hlen7 : (lessP (D) ys PT).length = ps.length := by rw [less_len]; exact HY.out.2.2.2.2.2.1
                obtain ⟨A4, c4, rfl, -, -, -, -⟩ := hr7.form
                rw [hlen7] at hr7 ⊢
                have hL7 := (hL6.keep hb7).keep (w' := w7.alloc (.cells #[.int .i64 (D)] 3)) (by (repeat (first | (with_reducible assumption) | (with_reducible exact Below.refl _ _) | ((with_reducible refine Below.alloc ?_ ?hsz _); (case hsz => (first | omega | (simp; done) | (simp; omega) | (simp at *; omega)))) | ((with_reducible refine Below.setCell ?_ ?hsz _); (case hsz => (first | omega | (simp; done) | (simp; omega) | (simp at *; omega)))) | (with_reducible refine Below.drew ?_) | (with_reducible refine below_drewN ?_ _) | ((with_reducible refine Below.trans ?_ (Below.mono (by with_reducible assumption) ?hsz)); (case hsz => (first | omega | (simp; done) | (simp; omega) | (simp at *; omega)))))))
                have hO7 := hO6.keep hb7
                have bx7 := bx6.keep hb7
                have hB7 : Below w.heap.size w w7 := hB6.trans (hb7.mono hz6)
                have hs7 := hb7.size
                have hz7 := hB7.size
                obtain ⟨g9, o9, c9, hv9, -, -, -, hc9⟩ := hL7
                injection hv9 with e1 e2 e3
                injection e1 with e1
                injection e1 with e1 e4
                subst e1
                subst e4
                have hnews := news_lies hc9
                have hownL := World.ownsRow_lit (e := 3) (base := w7.heap.size) (size := 1) w7 #[.int .i64 (D)] 1 (Nat.le_refl _) (by simp [maxLen]) rfl
                obtain ⟨vs, v1, v2, v3, v4⟩ := hO7
                have hN := HY.out.2.2.2.1
                have hg1 := (v2.lt g rfl).1
                rw [← hN] at v2 v3
                have hLf := HY.out.2.2.1
                rw [← hN] at hLf
                have V4 := Lib.hid v4
                have V1 := Lib.hid v1
                have hdl := hml
                clear v4 v1 hN hlen7 hb7 hc9 e2 e3 bx6 d0 d1 bs
                go_wp2_with (first
                  | (at_builtin
                     (refine wpList_append_lies _ rfl _ _ 30 rfl w7.heap.size 3 i0 _ 1 8 Tryz.underlying30 hi0' hz0 hz1' hz2' rfl (by omega) (.slice (some ⟨w7.heap.size, 0, none⟩) 1 1) 1 [.int .i64 (D)] rfl hownL ⟨gr, q, none⟩ (WK.length - q) (cr - q) ((natsI PT).map (Value.int .i64)) rfl (by rw [List.length_map, Nat.mul_one]; exact hdl) hnews (by intro u' hu'; obtain ⟨y', -, rfl⟩ := List.mem_map.1 hu'; rfl) hm0 (by unfold maxLen; omega) (by omega) (by simp) _ rfl ?_)
                     intro g5 k5 w8 hown8 hgr8 hat8 hlt8
                     have hB8 : Below w7.heap.size w7 w8 := Below.grown (w := w7.alloc (.cells #[.int .i64 (D)] 3)) (by (repeat (first | (with_reducible assumption) | (with_reducible exact Below.refl _ _) | ((with_reducible refine Below.alloc ?_ ?hsz _); (case hsz => (first | omega | (simp; done) | (simp; omega) | (simp at *; omega)))) | ((with_reducible refine Below.setCell ?_ ?hsz _); (case hsz => (first | omega | (simp; done) | (simp; omega) | (simp at *; omega)))) | (with_reducible refine Below.drew ?_) | (with_reducible refine below_drewN ?_ _) | ((with_reducible refine Below.trans ?_ (Below.mono (by with_reducible assumption) ?hsz)); (case hsz => (first | omega | (simp; done) | (simp; omega) | (simp at *; omega))))))) hgr8 (by (first | omega | (simp; done) | (simp; omega) | (simp at *; omega))) (fun q hq => by have hq' : w7.heap.size = q := (by injection hq); omega)
                     have hs8 := hB8.size
                     have hO8 := (own_keep v2 (Nat.le_refl _) hB8).alloc (.cells #[.slice (some ⟨g5, 0, none⟩) (1 + (WK.length - q)) k5] 30))
                  | (at_builtin
                     (refine wpList_append_lies _ rfl _ _ 28 rfl (w.heap.size + 1) 30 iS _ 1 24 Tryz.underlying28 hiS hS0 hS1 hS2 rfl (by omega) (.slice (some ⟨g, 0, none⟩) N cap) N vs rfl hO8 ⟨w8.heap.size, 0, none⟩ 1 1 [.slice (some ⟨g5, 0, none⟩) (1 + (WK.length - q)) k5] rfl rfl (World.news_of_block (cs := #[.slice (some ⟨g5, 0, none⟩) (1 + (WK.length - q)) k5]) (t := 30) (fr := (0, 0)) (heap_alloc_new _ _)) (by simp [Value.oneCell']) (by omega) (by unfold maxLen; omega) (by omega) (by simp; omega) _ rfl ?_)
                     intro g6 k6 w9 hown9 hgr9 hat9 hlt9))
                have hI8 : Ints w8 w7.heap.size (.slice (some ⟨g5, 0, none⟩) (1 + (WK.length - q)) k5) ((D) :: natsI PT) := ⟨by rw [show ((D) :: natsI PT).length = 1 + (WK.length - q) by rw [List.length_cons, hdl]; omega]; exact hown8, by rw [List.length_cons, hdl]; unfold small; omega⟩
                have hI8' := (hI8.mono (b' := w.heap.size + 1) (by omega)).alloc1 (.cells #[.slice (some ⟨g5, 0, none⟩) (1 + (WK.length - q)) k5] 30)
                have hr9 := ((hr7.keep hB8).alloc1 (.cells #[.slice (some ⟨g5, 0, none⟩) (1 + (WK.length - q)) k5] 30)).other hO8 hgr9
                have hN := HY.out.2.2.2.1
                have hO9 : OwnRows w9 (w.heap.size + 1) g6 k6 (Ls ++ [(D) :: natsI PT]) := rows_snoc V1.out (by rw [← hN]; exact hO8) (fun k hk hk' => ((V4.out k hk hk').keep hB8).alloc1 _) hI8' (by unfold small; omega) hgr9 (by rw [← hN]; exact hown9)
                have bx9 := ((bx7.keep hB8).keep (w' := w8.alloc (.cells #[.slice (some ⟨g5, 0, none⟩) (1 + (WK.length - q)) k5] 30)) (by (repeat (first | (with_reducible assumption) | (with_reducible exact Below.refl _ _) | ((with_reducible refine Below.alloc ?_ ?hsz _); (case hsz => (first | omega | (simp; done) | (simp; omega) | (simp at *; omega)))) | ((with_reducible refine Below.setCell ?_ ?hsz _); (case hsz => (first | omega | (simp; done) | (simp; omega) | (simp at *; omega)))) | (with_reducible refine Below.drew ?_) | (with_reducible refine below_drewN ?_ _) | ((with_reducible refine Below.trans ?_ (Below.mono (by with_reducible assumption) ?hsz)); (case hsz => (first | omega | (simp; done) | (simp; omega) | (simp at *; omega)))))))).grown hgr9 (by intro hh; have hh2 : w.heap.size = g := (by injection hh); omega)
                have hB9 : Below w.heap.size w w9 := Below.grown (w := w8.alloc (.cells #[.slice (some ⟨g5, 0, none⟩) (1 + (WK.length - q)) k5] 30)) (Below.alloc (hB7.trans (hB8.mono (by omega))) (by omega) _) hgr9 (by simp; omega) (fun q hq => by have hq' : g = q := (by injection hq); omega)
                have hfin : (Ls ++ [(D) :: natsI PT]) ++ partsP ps i j f L2 (lessP (D) ys PT) = partsR n ps xs i j := by
                  rw [← HY.out.2.2.2.2.1, HON.out, List.append_assoc]
                  simp
                have hM9 : leftN2 (lessP (D) ys PT) L2 < f := by
                  have h1 := HS.out.2.2.2.1
                  have h2 := HY.out.2.1
                  omega
                have hNN := Lib.hid hN
                have HF := Lib.hid (And.intro hfin (And.intro hM9 eL))
                clear hown8 hgr8 hat8 hown9 hgr9 hat9 hN hfin hM9 eL
                go_roundw
                case rel => exact ⟨f, N + 1, k6, g6, Ls ++ [(D) :: natsI PT], lessP (D) ys PT, _, _, L2, rfl, hr9, HS.out.2.2.1, HS.out.2.2.2.2.2, HF.out.2.1, by have hN := hNN.out; rw [List.length_append, ← hN]; simp; omega, by rw [List.length_append, ← hNN.out]; rfl, rfl, hO9, HF.out.1, by (first | (rw [HF.out.2.2]; done) | (rw [HF.out.2.2]; simp)), bx9, hB9⟩
                case measure => simp [sliceLen]; omega
        · have hld : decide (0 < left) = false := decide_eq_false hleft
          have hbal := HY.out.1.done hleft Hl0.out
          have HOFF := Lib.hid (parts_off' (ps := ps) (a := i) (b := j) (xs := ys) (f := f) hleft)
          have hfl2 := bal_flow hbal
          go_wp2_with fail
          with_reducible refine (l4Rings_any n _ _ ps ys b bf _ ((hp0.keep hB).keep (by (repeat (first | (with_reducible assumption) | (with_reducible exact Below.refl _ _) | ((with_reducible refine Below.alloc ?_ ?hsz _); (case hsz => (first | omega | (simp; done) | (simp; omega) | (simp at *; omega)))) | ((with_reducible refine Below.setCell ?_ ?hsz _); (case hsz => (first | omega | (simp; done) | (simp; omega) | (simp at *; omega)))) | (with_reducible refine Below.drew ?_) | (with_reducible refine below_drewN ?_ _) | ((with_reducible refine Below.trans ?_ (Below.mono (by with_reducible assumption) ?hsz)); (case hsz => (first | omega | (simp; done) | (simp; omega) | (simp at *; omega)))))))) (hy.keep (by (repeat (first | (with_reducible assumption) | (with_reducible exact Below.refl _ _) | ((with_reducible refine Below.alloc ?_ ?hsz _); (case hsz => (first | omega | (simp; done) | (simp; omega) | (simp at *; omega)))) | ((with_reducible refine Below.setCell ?_ ?hsz _); (case hsz => (first | omega | (simp; done) | (simp; omega) | (simp at *; omega)))) | (with_reducible refine Below.drew ?_) | (with_reducible refine below_drewN ?_ _) | ((with_reducible refine Below.trans ?_ (Below.mono (by with_reducible assumption) ?hsz)); (case hsz => (first | omega | (simp; done) | (simp; omega) | (simp at *; omega)))))))) (flowOk_parts hfl2).2.1 HP.out.1 (flow_getD hfl2)).mono ?_
          rintro e w5 ⟨g6, k6, rfl, hR, hb5⟩
          obtain ⟨vs, v1, v2, v3, v4⟩ := hO
          obtain ⟨us, u1, u2, u3, u4⟩ := hR
          have hN := HY.out.2.2.2.1
          have hLf := HY.out.2.2.1
          have hfew : (ringsL ps ys).length ≤ 8 := rings_few8 (ps := ps) 8 ys
          have v2' := own_keep v2 (Nat.le_refl _) hb5
          have v4' : ∀ k (h : k < Ls.length) (h' : k < vs.length), Ints w5 (w.heap.size + 1) vs[k] Ls[k] := fun k hk hk' => (v4 k hk hk').keep hb5
          have u4' : ∀ k (h : k < (ringsL ps ys).length) (h' : k < us.length), Ints w5 (w.heap.size + 1) us[k] (ringsL ps ys)[k] := fun k hk hk' => (u4 k hk hk').mono (by omega)
          have hsrc := rows_src' u2 u1 u4
          have hB5 : Below w.heap.size w w5 := hB.trans (hb5.mono hzb)
          have hz5 := hB5.size
          have hs5 := hb5.size
          obtain ⟨M, hM⟩ : ∃ M, (ringsL ps ys).length = M := ⟨_, rfl⟩
          rw [← hN] at v2'
          rw [hM] at hsrc hfew ⊢
          have HE := Lib.hid (And.intro v1 (And.intro u1 (And.intro v4' (And.intro u4' hM))))
          have hrow : ∀ q', (Value.slice (some ⟨g, 0, none⟩) N cap).ownBlock = some q' → w.heap.size + 1 ≤ q' := fun q' hq => (v2'.lt q' hq).1
          clear v1 u1 v4' u4' hM v2 v3 v4 u2 u3 u4 hN hbal hfl2
          go_wp2_with (first
            | (at_builtin
               go_must (refine wpList_append_src rfl _ _ 28 rfl (w.heap.size + 1) 30 iS _ 1 24 Tryz.underlying28 hiS hS0 hS1 hS2 rfl (by omega) _ _ N M vs us rfl rfl v2' hsrc (by unfold maxLen; have := HY.out.2.2.2.1; omega) (by have := HY.out.2.2.2.1; omega) (by omega) ?_)
               intro r w7 hown7 hgr7 hat7))
          have hN := HY.out.2.2.2.1
          have hB7 : Below w.heap.size w w7 := Below.grown hB5 hgr7 hz5 (fun q hq => by have := hrow q hq; omega)
          have hrs : ∃ g7, r.ownBlock = some g7 := by
            rcases hat7 with h | h
            · exact ⟨g, h⟩
            · exact ⟨_, h⟩
          obtain ⟨g7, hg7⟩ := hrs
          obtain ⟨c7, rfl⟩ := own_some hown7 hg7
          rw [hN, ← HE.out.2.2.2.2] at hown7
          have hfin : OwnRows w7 (w.heap.size + 1) g7 c7 (Ls ++ ringsL ps ys) := rows_app HE.out.1 HE.out.2.1 (by rw [← hN]; exact v2') HE.out.2.2.1 HE.out.2.2.2.1 (by have := HE.out.2.2.2.2; unfold small; omega) hgr7 hown7
          have Hcat := Lib.hid (show Ls ++ ringsL ps ys = partsR n ps xs i j by rw [← HY.out.2.2.2.2.1, HOFF.out])
          have hlenR : (partsR n ps xs i j).length = N + M := by rw [← Hcat.out, List.length_append, HE.out.2.2.2.2, hN]
          have HLR := Lib.hid hlenR
          clear hown7 hgr7 hat7 hlenR
          go_ret2
          refine ⟨g7, c7, by rw [HLR.out]; rfl, ?_, hB7⟩
          rw [← Hcat.out]
          obtain ⟨vs', x1, x2, x3, x4⟩ := hfin
          exact ⟨vs', x1, own_mono x2 (by omega), x3, fun k hk hk' => (x4 k hk hk').mono (by omega)⟩

theorem own_lit0 {w : World} {b : Nat} (hb : b ≤ w.heap.size) : OwnRows (w.alloc (.cells #[] 30)) b w.heap.size 0 [] :=
  ⟨[], rfl, World.ownsRow_lit (e := 30) (base := b) (size := 1) w #[] 0 hb (by simp [maxLen]) rfl, by simp [small], fun k hk => absurd hk (by simp)⟩

set_option maxHeartbeats 2000000 in
set_option maxRecDepth 20000 in
theorem specPartsTop_any (n i j : Int) (v u : Value) (ps : List Pp) (xs : List Int) (b b' : Nat) (w : World) (hp : Pipes w b v ps) (hx : Ints w b' u xs) :
    Calls Tryz.prog 32 #[.agg #[.int .i64 n, v], u, .int .i64 i, .int .i64 j] w fun e w' => ∃ g cap : Nat, e = .returned (.tuple #[.slice (some ⟨g, 0, none⟩) (partsR n ps xs i j).length cap, .bool (partsOkB n ps xs i j)]) ∧ OwnRows w' w.heap.size g cap (partsR n ps xs i j) ∧ Below w.heap.size w w' := by
  by_cases hok : partsOkB n ps xs i j = true
  · rw [hok]; exact specPartsIn_any n i j v u ps xs b b' w hp hx hok
  · have hok' : partsOkB n ps xs i j = false := by simpa using hok
    have Hno := Lib.hid (parts_no' hok')
    have Hf := Lib.hid hok'
    have hp0 := hp
    have hx0 := hx
    obtain ⟨A, c, rfl, -, -, -, -⟩ := hp.form
    obtain ⟨A0, c0, rfl, -, -, -, -⟩ := hx.form
    have bx0 := Box2.new w (.int .i64 n) (.slice A ps.length c) 25
    clear hok
    go_enter Tryz.func32, Tryz.ntmps32
    go_wp2_with fail
    refine (specFlowOk_any n _ _ ps xs b b' _ (hp0.keep (by (repeat (first | (with_reducible assumption) | (with_reducible exact Below.refl _ _) | ((with_reducible refine Below.alloc ?_ ?hsz _); (case hsz => (first | omega | (simp; done) | (simp; omega) | (simp at *; omega)))) | ((with_reducible refine Below.setCell ?_ ?hsz _); (case hsz => (first | omega | (simp; done) | (simp; omega) | (simp at *; omega)))) | (with_reducible refine Below.drew ?_) | (with_reducible refine below_drewN ?_ _) | ((with_reducible refine Below.trans ?_ (Below.mono (by with_reducible assumption) ?hsz)); (case hsz => (first | omega | (simp; done) | (simp; omega) | (simp at *; omega)))))))) (hx0.keep (by (repeat (first | (with_reducible assumption) | (with_reducible exact Below.refl _ _) | ((with_reducible refine Below.alloc ?_ ?hsz _); (case hsz => (first | omega | (simp; done) | (simp; omega) | (simp at *; omega)))) | ((with_reducible refine Below.setCell ?_ ?hsz _); (case hsz => (first | omega | (simp; done) | (simp; omega) | (simp at *; omega)))) | (with_reducible refine Below.drew ?_) | (with_reducible refine below_drewN ?_ _) | ((with_reducible refine Below.trans ?_ (Below.mono (by with_reducible assumption) ?hsz)); (case hsz => (first | omega | (simp; done) | (simp; omega) | (simp at *; omega))))))))).mono ?_
    rintro e w1 ⟨rfl, hb1⟩
    have bx1 := bx0.keep hb1
    have hB1 : Below w.heap.size w w1 := by (repeat (first | (with_reducible assumption) | (with_reducible exact Below.refl _ _) | ((with_reducible refine Below.alloc ?_ ?hsz _); (case hsz => (first | omega | (simp; done) | (simp; omega) | (simp at *; omega)))) | ((with_reducible refine Below.setCell ?_ ?hsz _); (case hsz => (first | omega | (simp; done) | (simp; omega) | (simp at *; omega)))) | (with_reducible refine Below.drew ?_) | (with_reducible refine below_drewN ?_ _) | ((with_reducible refine Below.trans ?_ (Below.mono (by with_reducible assumption) ?hsz)); (case hsz => (first | omega | (simp; done) | (simp; omega) | (simp at *; omega))))))
    clear bx0 hb1
    obtain ⟨bs, d0, d1, -, -⟩ := id bx1
    by_cases hfl : flowOkB n ps xs = true
    · rw [hfl]
      go_wp2_with fail
      refine (ends_any n i j _ ps b _ ((hp0.keep hB1).keep (by (repeat (first | (with_reducible assumption) | (with_reducible exact Below.refl _ _) | ((with_reducible refine Below.alloc ?_ ?hsz _); (case hsz => (first | omega | (simp; done) | (simp; omega) | (simp at *; omega)))) | ((with_reducible refine Below.setCell ?_ ?hsz _); (case hsz => (first | omega | (simp; done) | (simp; omega) | (simp at *; omega)))) | (with_reducible refine Below.drew ?_) | (with_reducible refine below_drewN ?_ _) | ((with_reducible refine Below.trans ?_ (Below.mono (by with_reducible assumption) ?hsz)); (case hsz => (first | omega | (simp; done) | (simp; omega) | (simp at *; omega))))))))).mono ?_
      rintro e w2 ⟨rfl, hb2⟩
      have bx2 := bx1.keep hb2
      have hB2 : Below w.heap.size w w2 := by (repeat (first | (with_reducible assumption) | (with_reducible exact Below.refl _ _) | ((with_reducible refine Below.alloc ?_ ?hsz _); (case hsz => (first | omega | (simp; done) | (simp; omega) | (simp at *; omega)))) | ((with_reducible refine Below.setCell ?_ ?hsz _); (case hsz => (first | omega | (simp; done) | (simp; omega) | (simp at *; omega)))) | (with_reducible refine Below.drew ?_) | (with_reducible refine below_drewN ?_ _) | ((with_reducible refine Below.trans ?_ (Below.mono (by with_reducible assumption) ?hsz)); (case hsz => (first | omega | (simp; done) | (simp; omega) | (simp at *; omega))))))
      clear bx1 hb2 d0 d1 bs
      obtain ⟨bs, d0, d1, -, -⟩ := id bx2
      by_cases he : endsB n ps i j = true
      · rw [he]
        have hfb : flowsB n ps xs i j = false := by
          have := hok'
          rw [partsOkB, hfl, he] at this
          simpa using this
        have n2 := (netOk_parts (flowOk_parts hfl).1).1
        have n5 := (netOk_parts (flowOk_parts hfl).1).2.1
        have HFB := Lib.hid (And.intro hfb hfl)
        clear hok' hfb hfl
        go_wp2
        go_loopw [10] (fun t wr => ∃ k : Nat, (k : Int) ≤ n ∧ t = .int .i64 k ∧ (∀ q : Nat, q < k → (q : Int) = i ∨ (q : Int) = j ∨ exc (q : Int) ps xs = 0) ∧ Box2 wr w.heap.size (.int .i64 n) (.slice A ps.length c) ∧ Below w.heap.size w wr) (fun t _ => (n - intOf t).toNat)
        case atStart => exact ⟨0, by omega, rfl, fun q hq => absurd hq (by omega), bx2, hB2⟩
        case round =>
          clear bx2 d0 d1 bs
          obtain ⟨k, hk, rfl, hall, bx, hB⟩ := hrel
          have Hall := Lib.hid hall
          clear hall
          obtain ⟨bs, d0, d1, -, -⟩ := id bx
          have next : ∀ (h : (k : Int) = i ∨ (k : Int) = j ∨ exc (k : Int) ps xs = 0), Hid (∀ q : Nat, q < k + 1 → (q : Int) = i ∨ (q : Int) = j ∨ exc (q : Int) ps xs = 0) := fun h => Lib.hid (by
            intro q hq
            rcases Nat.lt_succ_iff_lt_or_eq.1 hq with hq | hq
            · exact Hall.out q hq
            · subst hq; exact h)
          have HN := Lib.hid next
          clear next
          by_cases hlt : (k : Int) < n
          · have hltd : decide ((k : Int) < n) = true := decide_eq_true hlt
            by_cases hi : (k : Int) = i
            · have Hn := HN.out (.inl hi)
              have hib : ((k : Int) != i) = false := by simp [hi]
              clear hi
              go_wp2
              go_roundw
              case rel => exact ⟨k + 1, by omega, by go_num, Hn.out, bx, hB⟩
              case measure => simp [intOf]; omega
            · have hib : ((k : Int) != i) = true := by simpa using hi
              clear hi
              by_cases hj : (k : Int) = j
              · have Hn := HN.out (.inr (.inl hj))
                have hjb : ((k : Int) != j) = false := by simp [hj]
                clear hj
                go_wp2
                go_roundw
                case rel => exact ⟨k + 1, by omega, by go_num, Hn.out, bx, hB⟩
                case measure => simp [intOf]; omega
              · have hjb : ((k : Int) != j) = true := by simpa using hj
                clear hj
                go_wp2_with fail
                refine (specExcess_any (k : Int) n _ _ ps xs b b' _ ((hp0.keep hB).keep (by (repeat (first | (with_reducible assumption) | (with_reducible exact Below.refl _ _) | ((with_reducible refine Below.alloc ?_ ?hsz _); (case hsz => (first | omega | (simp; done) | (simp; omega) | (simp at *; omega)))) | ((with_reducible refine Below.setCell ?_ ?hsz _); (case hsz => (first | omega | (simp; done) | (simp; omega) | (simp at *; omega)))) | (with_reducible refine Below.drew ?_) | (with_reducible refine below_drewN ?_ _) | ((with_reducible refine Below.trans ?_ (Below.mono (by with_reducible assumption) ?hsz)); (case hsz => (first | omega | (simp; done) | (simp; omega) | (simp at *; omega)))))))) ((hx0.keep hB).keep (by (repeat (first | (with_reducible assumption) | (with_reducible exact Below.refl _ _) | ((with_reducible refine Below.alloc ?_ ?hsz _); (case hsz => (first | omega | (simp; done) | (simp; omega) | (simp at *; omega)))) | ((with_reducible refine Below.setCell ?_ ?hsz _); (case hsz => (first | omega | (simp; done) | (simp; omega) | (simp at *; omega)))) | (with_reducible refine Below.drew ?_) | (with_reducible refine below_drewN ?_ _) | ((with_reducible refine Below.trans ?_ (Below.mono (by with_reducible assumption) ?hsz)); (case hsz => (first | omega | (simp; done) | (simp; omega) | (simp at *; omega)))))))) HFB.out.2).mono ?_
                rintro e w5 ⟨rfl, hb5⟩
                have bx5 := bx.keep hb5
                have hB5 : Below w.heap.size w w5 := by (repeat (first | (with_reducible assumption) | (with_reducible exact Below.refl _ _) | ((with_reducible refine Below.alloc ?_ ?hsz _); (case hsz => (first | omega | (simp; done) | (simp; omega) | (simp at *; omega)))) | ((with_reducible refine Below.setCell ?_ ?hsz _); (case hsz => (first | omega | (simp; done) | (simp; omega) | (simp at *; omega)))) | (with_reducible refine Below.drew ?_) | (with_reducible refine below_drewN ?_ _) | ((with_reducible refine Below.trans ?_ (Below.mono (by with_reducible assumption) ?hsz)); (case hsz => (first | omega | (simp; done) | (simp; omega) | (simp at *; omega))))))
                have hz5 := hB5.size
                clear bx hb5 d0 d1 bs
                by_cases he : exc (k : Int) ps xs = 0
                · have Hn := HN.out (.inr (.inr he))
                  have heb : (exc (k : Int) ps xs != 0) = false := by simp [he]
                  clear he
                  go_wp2
                  go_roundw
                  case rel => exact ⟨k + 1, by omega, by go_num, Hn.out, bx5, hB5⟩
                  case measure => simp [intOf]; omega
                · have heb : (exc (k : Int) ps xs != 0) = true := by simpa using he
                  clear he
                  go_wp2
                  go_ret2
                  exact ⟨_, 0, by rw [Hf.out, Hno.out]; rfl, by rw [Hno.out]; exact own_lit0 hB5.size, by (repeat (first | (with_reducible assumption) | (with_reducible exact Below.refl _ _) | ((with_reducible refine Below.alloc ?_ ?hsz _); (case hsz => (first | omega | (simp; done) | (simp; omega) | (simp at *; omega)))) | ((with_reducible refine Below.setCell ?_ ?hsz _); (case hsz => (first | omega | (simp; done) | (simp; omega) | (simp at *; omega)))) | (with_reducible refine Below.drew ?_) | (with_reducible refine below_drewN ?_ _) | ((with_reducible refine Below.trans ?_ (Below.mono (by with_reducible assumption) ?hsz)); (case hsz => (first | omega | (simp; done) | (simp; omega) | (simp at *; omega))))))⟩
          · have hltd : decide ((k : Int) < n) = false := decide_eq_false hlt
            have Hr := Lib.hid (flows_all' (n := n) (i := i) (j := j) (ps := ps) (xs := xs) fun q hq => Hall.out q (by omega))
            go_wp2_with fail
            refine (specExcess_any j n _ _ ps xs b b' _ ((hp0.keep hB).keep (by (repeat (first | (with_reducible assumption) | (with_reducible exact Below.refl _ _) | ((with_reducible refine Below.alloc ?_ ?hsz _); (case hsz => (first | omega | (simp; done) | (simp; omega) | (simp at *; omega)))) | ((with_reducible refine Below.setCell ?_ ?hsz _); (case hsz => (first | omega | (simp; done) | (simp; omega) | (simp at *; omega)))) | (with_reducible refine Below.drew ?_) | (with_reducible refine below_drewN ?_ _) | ((with_reducible refine Below.trans ?_ (Below.mono (by with_reducible assumption) ?hsz)); (case hsz => (first | omega | (simp; done) | (simp; omega) | (simp at *; omega)))))))) ((hx0.keep hB).keep (by (repeat (first | (with_reducible assumption) | (with_reducible exact Below.refl _ _) | ((with_reducible refine Below.alloc ?_ ?hsz _); (case hsz => (first | omega | (simp; done) | (simp; omega) | (simp at *; omega)))) | ((with_reducible refine Below.setCell ?_ ?hsz _); (case hsz => (first | omega | (simp; done) | (simp; omega) | (simp at *; omega)))) | (with_reducible refine Below.drew ?_) | (with_reducible refine below_drewN ?_ _) | ((with_reducible refine Below.trans ?_ (Below.mono (by with_reducible assumption) ?hsz)); (case hsz => (first | omega | (simp; done) | (simp; omega) | (simp at *; omega)))))))) HFB.out.2).mono ?_
            rintro e w5 ⟨rfl, hb5⟩
            have hB5 : Below w.heap.size w w5 := by (repeat (first | (with_reducible assumption) | (with_reducible exact Below.refl _ _) | ((with_reducible refine Below.alloc ?_ ?hsz _); (case hsz => (first | omega | (simp; done) | (simp; omega) | (simp at *; omega)))) | ((with_reducible refine Below.setCell ?_ ?hsz _); (case hsz => (first | omega | (simp; done) | (simp; omega) | (simp at *; omega)))) | (with_reducible refine Below.drew ?_) | (with_reducible refine below_drewN ?_ _) | ((with_reducible refine Below.trans ?_ (Below.mono (by with_reducible assumption) ?hsz)); (case hsz => (first | omega | (simp; done) | (simp; omega) | (simp at *; omega))))))
            have hz5 := hB5.size
            have hnd : decide (exc j ps xs < 0) = true := by
              have := Hr.out
              rw [HFB.out.1] at this
              have := of_decide_eq_false this.symm
              exact decide_eq_true (by omega)
            go_wp2
            go_ret2
            exact ⟨_, 0, by rw [Hf.out, Hno.out]; rfl, by rw [Hno.out]; exact own_lit0 hB5.size, by (repeat (first | (with_reducible assumption) | (with_reducible exact Below.refl _ _) | ((with_reducible refine Below.alloc ?_ ?hsz _); (case hsz => (first | omega | (simp; done) | (simp; omega) | (simp at *; omega)))) | ((with_reducible refine Below.setCell ?_ ?hsz _); (case hsz => (first | omega | (simp; done) | (simp; omega) | (simp at *; omega)))) | (with_reducible refine Below.drew ?_) | (with_reducible refine below_drewN ?_ _) | ((with_reducible refine Below.trans ?_ (Below.mono (by with_reducible assumption) ?hsz)); (case hsz => (first | omega | (simp; done) | (simp; omega) | (simp at *; omega))))))⟩
      · have he' : endsB n ps i j = false := by simpa using he
        rw [he']
        go_wp2
        go_ret2
        exact ⟨_, 0, by rw [Hf.out, Hno.out]; rfl, by rw [Hno.out]; exact own_lit0 hB2.size, by (repeat (first | (with_reducible assumption) | (with_reducible exact Below.refl _ _) | ((with_reducible refine Below.alloc ?_ ?hsz _); (case hsz => (first | omega | (simp; done) | (simp; omega) | (simp at *; omega)))) | ((with_reducible refine Below.setCell ?_ ?hsz _); (case hsz => (first | omega | (simp; done) | (simp; omega) | (simp at *; omega)))) | (with_reducible refine Below.drew ?_) | (with_reducible refine below_drewN ?_ _) | ((with_reducible refine Below.trans ?_ (Below.mono (by with_reducible assumption) ?hsz)); (case hsz => (first | omega | (simp; done) | (simp; omega) | (simp at *; omega))))))⟩
    · have hfl' : flowOkB n ps xs = false := by simpa using hfl
      rw [hfl']
      go_wp2
      go_ret2
      exact ⟨_, 0, by rw [Hf.out, Hno.out]; rfl, by rw [Hno.out]; exact own_lit0 hB1.size, by (repeat (first | (with_reducible assumption) | (with_reducible exact Below.refl _ _) | ((with_reducible refine Below.alloc ?_ ?hsz _); (case hsz => (first | omega | (simp; done) | (simp; omega) | (simp at *; omega)))) | ((with_reducible refine Below.setCell ?_ ?hsz _); (case hsz => (first | omega | (simp; done) | (simp; omega) | (simp at *; omega)))) | (with_reducible refine Below.drew ?_) | (with_reducible refine below_drewN ?_ _) | ((with_reducible refine Below.trans ?_ (Below.mono (by with_reducible assumption) ?hsz)); (case hsz => (first | omega | (simp; done) | (simp; omega) | (simp at *; omega))))))⟩

end Go.Proofs.YtmgpekdhcghabaaGreat

/- Contracts of the functions of chapter 2 in the model: RoomOf, LeavingOf. -/
namespace Go.Proofs.YtmgpekdhcghabaaGreat
open Go.RowKit

end Go.Proofs.YtmgpekdhcghabaaGreat
