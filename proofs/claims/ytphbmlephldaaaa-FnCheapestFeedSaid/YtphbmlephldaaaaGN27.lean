/- Plain facts. -/
import Derived.Test.YtphbmlephldaaaaGN38
import Derived.Test.YtphbmlephldaaaaGN13
import Derived.Test.YtphbmlephldaaaaGN8
import Derived.Test.YtphbmlephldaaaaGN1
/- The flow law again, where what is known of the world may speak of all values so far. -/
namespace Go.Proofs.Ytphbmlephldaaaa
open Go.RowKit
section
variable {P : Program} {l : List Oper} {skip : Nat} {D : List (Nat × Tmp)} {a0 : Act} {u : Nat → Value}

/-- what is asked of one operation -/
def flowG (V : Nat → Value → (Nat → Value) → World → Prop) (R : Nat → World → World → Prop) (C : Value → World → Prop) (i : Nat) (d : Option Tmp) (u : Nat → Value) (a : Act) (w : World) : Exit → Act → World → Prop
  | .normal, a', w' => ∃ v, a' = a.put d v ∧ V i v u w' ∧ R i w w' ∧ C v w'
  | _, _, _ => False

theorem wp_flowG {Q : Exit → Act → World → Prop} {V : Nat → Value → (Nat → Value) → World → Prop} {R : Nat → World → World → Prop} {C : Value → World → Prop} {i : Nat} {o : Oper} {a : Act} {w : World} {K : Act → World → Prop} (hi : l[i]? = some o)
    (h : wpList P l.toArray (flowG V R C i o.dst u a w) [o] a w) (hK : ∀ v w', V i v u w' → R i w w' → C v w' → K (a.put o.dst v) w') : wpOp P l.toArray Q i K a w := by
  unfold wpOp
  have hi' : l.toArray[i]? = some o := by simpa using hi
  simp only [hi']
  simp only [wpList] at h
  split
  · rename_i hw
    rw [if_pos hw] at h
    refine .inl ?_
    rcases h with h | ⟨-, a', w', h⟩
    · unfold Oper.wp at h ⊢
      generalize (execOp a.eval o).run P w = r at *
      have kk : ∀ (a1 : Act) (w1 : World), flowG V R C i o.dst u a w .normal a1 w1 → K a1 w1 := by
        rintro a1 w1 ⟨v, rfl, h1, h2, h3⟩
        exact hK v w1 h1 h2 h3
      cases r with
      | ok n w1 =>
        cases n <;> simp only [Oper.upon] at h ⊢
        case value u' => exact kk _ _ h
        case skip => exact kk _ _ h
        case defer d => exact kk _ _ h
        case enter f args =>
          refine h.mono fun e w2 he => ?_
          cases e with
          | returned v => exact kk _ _ he
          | panicked c => exact he.elim
          | outgrown => obtain ⟨a3, w3, h3⟩ := he; exact h3.elim
        case row r args => exact h.mono fun v w2 he => kk _ _ he
      | halt x w1 =>
        cases x <;> simp only [Oper.upon] at h ⊢
        case panic v => exact h.elim
    · exact h.elim
  · rename_i hw
    rw [if_neg hw] at h
    obtain ⟨v, h0, h1, h2, h3⟩ := h
    rw [h0]
    exact hK v w h1 h2 h3

theorem flow_anyG {Q : Exit → Act → World → Prop} {V : Nat → Value → (Nat → Value) → World → Prop} {R : Nat → World → World → Prop} {C : Nat → (Nat → Value) → World → Prop} (hB : flowB l skip D = true)
    (hst : ∀ i k, i < l.length → k < l.length → aliveB l i k = true → ∀ x u w w', R i w w' → V k x u w → V k x u w')
    (hloc : ∀ k, k < l.length → ∀ x u u' w, (∀ j ∈ usesAt l k, u j = u' j) → V k x u w → V k x u' w)
    (hop : ∀ i o, l[i]? = some o → ∀ (u uu : Nat → Value) (f : Nat) (w : World), C (f + 1) uu w → uu i = undef → (∀ j ∈ useOf o, u j = uu j) → allV V u w (useOf o) → (afterN l i ≤ f ∧ f ≤ freeN l i) → wpList P l.toArray (flowG V R (fun x => C f (fun k => if k = i then x else uu k)) i o.dst u (fillF a0 u D) w) [o] (fillF a0 u D) w)
    (hend : ∀ (u : Nat → Value) (f : Nat) (w : World), C f u w → (∀ k, k < l.length → finB l k = true → V k (u k) u w) → Q .normal (fillEnd a0 u D skip (dstAt l skip)) w) :
    ∀ (f : Nat) (listed : Array Bool) (a : Act) (w : World) (u : Nat → Value), listed.size = l.length → leftN l.length listed = f → InvF l a0 V u listed a w → (∀ k, listed.getD k false = false → u k = undef) → C f u w → wpAny P .any l.toArray Q f listed a w := by
  obtain ⟨b1, b2, b3, b4⟩ := flow_parts hB
  intro f
  induction f with
  | zero =>
    intro listed a w u hz hn hI hun hC
    have hall : ∀ k, k < l.length → listed.getD k false = true := by
      intro k hk
      rcases hl : listed.getD k false with _ | _
      · have := left_lt hk hz hl; omega
      · rfl
    refine ⟨?_, ?_⟩
    · rcases hr : Region.ready .any l.toArray listed with _ | ⟨x, xs⟩
      · rfl
      · have hx : x ∈ Region.ready .any l.toArray listed := by rw [hr]; simp
        obtain ⟨h0, o, ho, -⟩ := mem_ready.1 hx
        have hxl : x < l.length := by
          have := (Array.getElem?_eq_some_iff.1 ho).1
          simpa using this
        have h1 := hall x hxl
        have hxs : x < listed.size := by omega
        simp [hxs] at h0 h1
        rw [h0] at h1
        cases h1
    · rw [at_end hB hI.at' hall]
      exact hend u 0 w hC fun k hk hf => hI.fin k hk (hall k hk) hf
  | succ f ih =>
    intro listed a w u hz hn hI hun hC
    refine ⟨fun hr => ?_, fun i hir => ?_⟩
    · have hall := ready_none hz b2 hr
      rw [at_end hB hI.at' hall]
      exact hend u _ w hC fun k hk hf => hI.fin k hk (hall k hk) hf
    · obtain ⟨h0, o, ho, hdep⟩ := mem_ready.1 hir
      have hi : l[i]? = some o := by simpa using ho
      have hil : i < l.length := (List.getElem?_eq_some_iff.1 hi).1
      have hiu : listed.getD i false = false := by
        have : i < listed.size := by omega
        simpa [this] using h0
      have hdl : ∀ j ∈ depsAt l i, listed.getD j false = true := fun j hj => by
        obtain ⟨e, he, hbd, rfl⟩ := (deps_mem hi).1 hj
        exact hdep e he hbd
      have hsk : skip < l.length → listed.getD skip false = false := fun hs => by
        by_cases e : i = skip
        · rw [← e]; exact hiu
        · rcases hl : listed.getD skip false with _ | _
          · rfl
          · have := later_listed b2 hI.cl l.length i skip hs (b4 hs i hil e) hl
            rw [hiu] at this
            cases this
      have ha := at_fill hB hI.at' hsk
      have hdo : usesAt l i = useOf o := by simp [usesAt, hi]
      have hV : allV V (initU l a0 listed u) w (useOf o) := allV_mem fun k hk => by
        have hl := hdl k (uses_deps (by rw [hdo]; exact hk))
        have hkl : k < l.length := by have := b2 i k hil (uses_deps (by rw [hdo]; exact hk)); omega
        have e : initU l a0 listed u k = u k := by rw [initU, if_pos hl]
        rw [e]
        exact hloc k hkl _ u _ w (fun j hj => by rw [initU, if_pos (hI.cl k j hkl hl (uses_deps hj))]) (hI.v k i hil hl hiu (by rw [hdo]; exact hk))
      have hlink : ∀ j ∈ useOf o, initU l a0 listed u j = u j := fun j hj => by
        rw [initU, if_pos (hdl j (uses_deps (by rw [hdo]; exact hj)))]
      rw [ha]
      have hone : leftN l.length (listed.setIfInBounds i true) = f := by
        have := left_eq (listed := listed) (i := i) (by omega) hiu l.length
        rw [if_pos hil] at this
        omega
      have hlast : afterN l i ≤ f ∧ f ≤ freeN l i := by
        rw [← hone]
        refine ⟨List.countP_mono_left fun k hk hp => ?_, List.countP_mono_left fun k hk hp => ?_⟩
        · have hkl := List.mem_range.1 hk
          rcases hk1 : (listed.setIfInBounds i true).getD k false with _ | _
          · rfl
          · exfalso
            by_cases e : k = i
            · subst e
              have := later_lt b2 l.length k k hil hp
              omega
            · rw [getD_set_ne false (Ne.symm e)] at hk1
              have := later_listed b2 hI.cl l.length i k hkl hp hk1
              rw [hiu] at this
              cases this
        · have hkl := List.mem_range.1 hk
          by_cases e : k = i
          · subst e
            rw [getD_set_same false (by omega)] at hp
            simp at hp
          · rw [getD_set_ne false (Ne.symm e)] at hp
            have hk1 : listed.getD k false = false := by simpa using hp
            rcases hL : laterB l l.length k i with _ | _
            · simp [e]
            · exfalso
              have : ∀ (f i : Nat), i < l.length → (∀ j ∈ depsAt l i, listed.getD j false = true) → laterB l f k i = true → listed.getD k false = true := by
                intro f i hi hd h
                cases f with
                | zero => simp [laterB] at h
                | succ f =>
                  simp only [laterB, List.any_eq_true, Bool.or_eq_true, beq_iff_eq] at h
                  obtain ⟨j, hj, h⟩ := h
                  rcases h with rfl | h
                  · exact hd _ hj
                  · exact later_listed b2 hI.cl f k j (by have := b2 i j hi hj; omega) h (hd j hj)
              have := this l.length i hil hdl hL
              rw [hk1] at this
              cases this
      refine wp_flowG (C := fun x => C f (fun k => if k = i then x else u k)) hi (hop i o hi _ u f w hC (hun i hiu) hlink hV hlast) fun v w' h1 h2 h3 => ?_
      have h1 : V i v (fun k => if k = i then v else u k) w' := hloc i hil _ _ _ w' (fun j hj => by
        have hji : j ≠ i := by have := b2 i j hil (uses_deps hj); omega
        rw [if_neg hji, initU, if_pos (hdl j (uses_deps hj))]) h1
      have hcl' : ∀ k j, k < l.length → (listed.setIfInBounds i true).getD k false = true → j ∈ depsAt l k → (listed.setIfInBounds i true).getD j false = true := by
        intro k j hk hkl hj
        by_cases hki : k = i
        · subst hki
          exact getD_set_true (hdl j hj)
        · rw [getD_set_ne false (Ne.symm hki)] at hkl
          exact getD_set_true (hI.cl k j hk hkl hj)
      rw [← ha]
      refine ih _ _ w' (fun k => if k = i then v else u k) (by simpa using hz) hone ⟨at_put hB hI.at' hi hz, fun k j hj hk hju hkj => ?_, fun k hk hkl hf => ?_, hcl'⟩ (fun k hk => by
        have hki : k ≠ i := fun e => by
          subst e
          rw [getD_set_same false (by omega)] at hk
          cases hk
        rw [getD_set_ne false (Ne.symm hki)] at hk
        simp only [if_neg hki]
        exact hun k hk) h3
      · by_cases hki : k = i
        · subst hki; simp only [if_true]; exact h1
        · (try dsimp only)
          rw [if_neg hki]
          rw [getD_set_ne false (Ne.symm hki)] at hk
          have hlj : laterB l l.length j i = false := by
            rcases hlj : laterB l l.length j i with _ | _
            · rfl
            · have := later_listed b2 hcl' l.length j i hil hlj (getD_set_same false (by omega))
              rw [hju] at this; cases this
          have hji : j ≠ i := fun e => by
            subst e
            rw [getD_set_same false (by omega)] at hju
            cases hju
          rw [getD_set_ne false (Ne.symm hji)] at hju
          have hkl : k < l.length := by have := b2 j k hj (uses_deps hkj); omega
          refine hloc k hkl _ u _ w' (fun j2 hj2 => ?_) (hst i k hil hkl ?_ _ u w w' h2 (hI.v k j hj hk hju hkj))
          · have hj3 := hI.cl k j2 hkl hk (uses_deps hj2)
            have hji2 : j2 ≠ i := fun e => by subst e; rw [hiu] at hj3; cases hj3
            rw [if_neg hji2]
          have hla : laterB l l.length i k = false := by
            rcases hla : laterB l l.length i k with _ | _
            · rfl
            · have := later_listed b2 hI.cl l.length i k hkl hla hk
              rw [hiu] at this; cases this
          simp only [aliveB, heldB, hla, Bool.or_eq_true, List.any_eq_true, List.mem_range, Bool.and_eq_true, bne_iff_ne, ne_eq, Bool.not_false, and_true]
          exact ⟨.inr ⟨j, hj, ⟨hji, by simpa using hkj⟩, by rw [hlj]; rfl⟩, hki⟩
      · by_cases hki : k = i
        · subst hki; simp only [if_true]; exact h1
        · (try dsimp only)
          rw [if_neg hki]
          rw [getD_set_ne false (Ne.symm hki)] at hkl
          refine hloc k hk _ u _ w' (fun j2 hj2 => ?_) (hst i k hil hk ?_ _ u w w' h2 (hI.fin k hk hkl hf))
          · have hj3 := hI.cl k j2 hk hkl (uses_deps hj2)
            have hji2 : j2 ≠ i := fun e => by subst e; rw [hiu] at hj3; cases hj3
            rw [if_neg hji2]
          have hla : laterB l l.length i k = false := by
            rcases hla : laterB l l.length i k with _ | _
            · rfl
            · have := later_listed b2 hI.cl l.length i k hk hla hkl
              rw [hiu] at this; cases this
          simp [aliveB, heldB, hf, hla, hki]

theorem wp_region_flowG {id : Nat} {Q : Exit → Act → World → Prop} {w0 : World} (skip : Nat) (dk : Option Tmp) (D : List (Nat × Tmp)) (V : Nat → Value → (Nat → Value) → World → Prop) (R : Nat → World → World → Prop) (C : Nat → (Nat → Value) → World → Prop) (hm : P.follows .mixedOrders = true) (hB : flowB l skip D = true) (hdk : dstAt l skip = dk)
    (hC : C l.length (fun _ => undef) { w0 with drawn := w0.drawn + 1 })
    (hst : ∀ i k, i < l.length → k < l.length → aliveB l i k = true → ∀ x u w w', R i w w' → V k x u w → V k x u w')
    (hloc : ∀ k, k < l.length → ∀ x u u' w, (∀ j ∈ usesAt l k, u j = u' j) → V k x u w → V k x u' w)
    (hop : eachOp (fun i o => ∀ (u uu : Nat → Value) (f : Nat) (w : World), C (f + 1) uu w → uu i = undef → (∀ j ∈ useOf o, u j = uu j) → allV V u w (useOf o) → (afterN l i ≤ f ∧ f ≤ freeN l i) → wpList P l.toArray (flowG V R (fun x => C f (fun k => if k = i then x else uu k)) i o.dst u (fillF a0 u D) w) [o] (fillF a0 u D) w) 0 l)
    (hend : ∀ (u : Nat → Value) (f : Nat) (w : World), C f u w → (∀ k, k < l.length → finB l k = true → V k (u k) u w) → Q .normal (fillEnd a0 u D skip dk) w) :
    (Code.region id l.toArray true).wp P Q a0 w0 := by
  subst hdk
  refine wp_region_any hm ?_
  have hsz : l.toArray.size = l.length := by simp
  rw [hsz]
  have hno : ∀ k, (Array.replicate l.length false).getD k false = false := fun k => by
    by_cases h : k < l.length <;> simp [h]
  refine flow_anyG hB hst hloc (fun i o hi => by have := each_all hop i o hi; rwa [Nat.zero_add] at this) hend _ _ _ _ (fun _ => undef) (by simp) ?_ ⟨⟨rfl, rfl, fun s _ => rfl, fun k s hk hd hl _ => ?_⟩, fun k j hj hk _ _ => ?_, fun k hk hl _ => ?_, fun k j hk hl _ => ?_⟩ (fun _ _ => rfl) hC
  · unfold leftN
    rw [List.countP_eq_length.2 (fun k _ => by rw [hno]; rfl), List.length_range]
  · rw [hno] at hl; cases hl
  · rw [hno] at hk; cases hk
  · rw [hno] at hl; cases hl
  · rw [hno] at hl; cases hl

end

/-- the block of a slice or of a pointer -/
def blkOf : Value → Option Nat
  | .slice (some a) _ _ => some a.block
  | .pointer (some a) => some a.block
  | _ => none
/-- the blocks of some values are there, and different ones -/
def apartU (S : List Nat) (u : Nat → Value) (w : World) : Prop := (∀ i ∈ S, ∀ a, blkOf (u i) = some a → a < w.heap.size) ∧ ∀ i ∈ S, ∀ j ∈ S, i ≠ j → ∀ a b, blkOf (u i) = some a → blkOf (u j) = some b → a ≠ b
theorem apart_start (S : List Nat) (w : World) : apartU S (fun _ => undef) w := ⟨fun _ _ a h => (by cases (show (none : Option Nat) = some a from h)), fun _ _ _ _ _ a b h => (by cases (show (none : Option Nat) = some a from h))⟩
theorem apart_other {S : List Nat} {u : Nat → Value} {w w' : World} (h : apartU S u w) (hs : w.heap.size ≤ w'.heap.size) (i : Nat) (hi : i ∉ S) (x : Value) : apartU S (fun k => if k = i then x else u k) w' := by
  refine ⟨fun j hj a hb => ?_, fun j hj k hk hjk a b ha hb => ?_⟩
  · have : j ≠ i := fun e => hi (e ▸ hj)
    simp only [if_neg this] at hb
    exact Nat.lt_of_lt_of_le (h.1 j hj a hb) hs
  · have e1 : j ≠ i := fun e => hi (e ▸ hj)
    have e2 : k ≠ i := fun e => hi (e ▸ hk)
    simp only [if_neg e1] at ha
    simp only [if_neg e2] at hb
    exact h.2 j hj k hk hjk a b ha hb
theorem apart_new {S : List Nat} {u : Nat → Value} {w w' : World} (h : apartU S u w) (hs : w.heap.size ≤ w'.heap.size) (i : Nat) (x : Value) (hx : ∀ a, blkOf x = some a → w.heap.size ≤ a ∧ a < w'.heap.size) : apartU S (fun k => if k = i then x else u k) w' := by
  refine ⟨fun j hj a hb => ?_, fun j hj k hk hjk a b ha hb => ?_⟩
  · by_cases e : j = i
    · simp only [if_pos e] at hb
      exact (hx a hb).2
    · simp only [if_neg e] at hb
      exact Nat.lt_of_lt_of_le (h.1 j hj a hb) hs
  · by_cases e1 : j = i <;> by_cases e2 : k = i
    · omega
    · simp only [if_pos e1] at ha
      simp only [if_neg e2] at hb
      have h1 := (hx a ha).1
      have h2 := h.1 k hk b hb
      omega
    · simp only [if_neg e1] at ha
      simp only [if_pos e2] at hb
      have h1 := (hx b hb).1
      have h2 := h.1 j hj a ha
      omega
    · simp only [if_neg e1] at ha
      simp only [if_neg e2] at hb
      exact h.2 j hj k hk hjk a b ha hb

end Go.Proofs.Ytphbmlephldaaaa

/- Contracts of the functions of chapter 6 in the program: PricesFor. -/
namespace Go.Proofs.Ytphbmlephldaaaa
open Go.RowKit

theorem ints_off {w w' : World} {b rg : Nat} {v : Value} {xs : List Int} (h : Ints w b v xs) (hg : w.grownBy w' (some rg)) (hne : v.ownBlock ≠ some rg) : Ints w' b v xs :=
  ⟨h.1.kept hg (.inr hne), h.2⟩

/-- a round of settling has changed something -/
def chgB (ps : List Pp) : List Nat → List Int → Bool
  | [], _ => false
  | s :: S, P => decide (P.getD (stFr ps s).toNat 0 + stCo ps s < P.getD (stTo ps s).toNat 0) || chgB ps S (prc1 ps P s)

theorem chg_snoc (ps : List Pp) (S : List Nat) (P : List Int) (k : Nat) (hk : k < S.length) : chgB ps (S.take (k + 1)) P = (chgB ps (S.take k) P || decide ((prcL ps (S.take k) P).getD (stFr ps S[k]).toNat 0 + stCo ps S[k] < (prcL ps (S.take k) P).getD (stTo ps S[k]).toNat 0)) := by
  rw [List.take_succ_eq_append_getElem hk]
  have key : ∀ (F : List Nat) (s : Nat) (P : List Int), chgB ps (F ++ [s]) P = (chgB ps F P || decide ((prcL ps F P).getD (stFr ps s).toNat 0 + stCo ps s < (prcL ps F P).getD (stTo ps s).toNat 0)) := by
    intro F
    induction F with
    | nil => intro s P; simp [chgB, prcL]
    | cons t F ih =>
      intro s P
      rw [List.cons_append, chgB, chgB, ih, Bool.or_assoc]
      rfl
  exact key _ _ _

/-- nothing has changed just if all stays -/
theorem chg_no {n : Nat} {ps : List Pp} {S : List Nat} (hS : insS n ps S) : ∀ {F : List Nat} {P : List Int}, (∀ s ∈ F, s ∈ S) → P.length = n → (chgB ps F P = false ↔ prcL ps F P = P) := by
  intro F
  induction F with
  | nil => intro P _ _; simp [chgB, prcL]
  | cons s F ih =>
    intro P hF hl
    obtain ⟨h1, h2, h3, h4⟩ := hS s (hF s (by simp))
    have hto : (stTo ps s).toNat < P.length := by omega
    have hlow := prcL_low (F := F) (P := prc1 ps P s) hS (fun t ht => hF t (by simp [ht])) (by rw [prc1_len]; exact hl)
    have e : prcL ps (s :: F) P = prcL ps F (prc1 ps P s) := rfl
    rw [chgB, Bool.or_eq_false_iff, decide_eq_false_iff_not, e]
    constructor
    · rintro ⟨g1, g2⟩
      have e1 : prc1 ps P s = P := by
        refine ext_getD (by rw [prc1_len]) fun v _ => ?_
        rw [prc1_get hto]
        split
        · next hv => subst hv; omega
        · rfl
      rw [e1] at g2 ⊢
      exact (ih (fun t ht => hF t (by simp [ht])) hl).1 g2
    · intro h
      have e1 : prc1 ps P s = P := by
        refine ext_getD (by rw [prc1_len]) fun v _ => ?_
        have := hlow.1 v
        rw [h] at this
        have := prc1_le (P := P) hto v
        omega
      refine ⟨fun hlt => ?_, ?_⟩
      · have := prc1_get (P := P) hto (stTo ps s).toNat
        rw [e1, if_pos rfl] at this
        omega
      · rw [e1] at h ⊢
        exact (ih (fun t ht => hF t (by simp [ht])) hl).2 h

/-- prices are bounded: each is the cost of a simple walk, or falls by at most so much a round -/
theorem prcL_bd {n : Nat} {ps : List Pp} {S : List Nat} (hS : insS n ps S) (hc : ∀ p ∈ ps, -9 ≤ p.co ∧ p.co ≤ 9) {m : Int} {F : List Nat} : ∀ {P : List Int}, (∀ s ∈ F, s ∈ S) → P.length = n → (∀ v, -m ≤ P.getD v 0 ∧ P.getD v 0 ≤ m) → 0 ≤ m → ∀ v, -(m + 9 * (F.length : Int)) ≤ (prcL ps F P).getD v 0 ∧ (prcL ps F P).getD v 0 ≤ m := by
  induction F generalizing m with
  | nil => intro P _ _ h _ v; have := h v; simpa [prcL] using this
  | cons s F ih =>
    intro P hF hl h h0 v
    obtain ⟨h1, h2, h3, h4⟩ := hS s (hF s (by simp))
    have hto : (stTo ps s).toNat < P.length := by omega
    have hco := stCo_bd hc h1
    have e : prcL ps (s :: F) P = prcL ps F (prc1 ps P s) := rfl
    have hlow := prcL_low (F := F) (P := prc1 ps P s) hS (fun t ht => hF t (by simp [ht])) (by rw [prc1_len]; exact hl)
    have hnew : ∀ v, -(m + 9) ≤ (prc1 ps P s).getD v 0 ∧ (prc1 ps P s).getD v 0 ≤ m + 9 := by
      intro v
      rw [prc1_get hto]
      have a := h v
      have b := h (stFr ps s).toNat
      split <;> omega
    have := ih (m := m + 9) (P := prc1 ps P s) (fun t ht => hF t (by simp [ht])) (by rw [prc1_len]; exact hl) hnew (by omega) v
    rw [e]
    have h5 := hlow.1 v
    have h6 := prc1_le (P := P) hto v
    have h7 := h v
    simp only [List.length_cons]
    push_cast
    omega

theorem prcN_bd {n : Nat} {ps : List Pp} {S : List Nat} (hS : insS n ps S) (hc : ∀ p ∈ ps, -9 ≤ p.co ∧ p.co ≤ 9) (r : Nat) : ∀ v, -(126 * (r : Int)) ≤ (prcN ps S n r).getD v 0 ∧ (prcN ps S n r).getD v 0 ≤ 0 ∨ 14 < S.length := by
  induction r with
  | zero =>
    intro v
    left
    simp only [prcN, List.getD_eq_getElem?_getD]
    rw [List.getElem?_replicate]
    split <;> simp
  | succ r ih =>
    intro v
    by_cases hl : 14 < S.length
    · exact .inr hl
    · left
      have h0 : ∀ v, -(126 * (r : Int)) ≤ (prcN ps S n r).getD v 0 ∧ (prcN ps S n r).getD v 0 ≤ 0 := fun v => (ih v).resolve_right hl
      have h1 := prcL_bd (F := S) (m := 126 * (r : Int)) hS hc (P := prcN ps S n r) (fun _ h => h) (prcN_len _ _ _ _) (fun v => by have := h0 v; omega) (by omega) v
      have h2 := (prcL_low (P := prcN ps S n r) hS (fun _ h => h) (prcN_len _ _ _ _)).1 v
      have h3 := h0 v
      rw [prcN]
      push_cast
      omega

theorem stL_len (ps : List Pp) (xs : List Int) : (stL ps xs).length ≤ 2 * ps.length := by
  unfold stL
  have := List.length_filter_le (openF ps xs) (List.range (2 * ps.length))
  simpa using this

theorem pipes_off {w w' : World} {b rg : Nat} {v : Value} {ps : List Pp} (h : Pipes w b v ps) (hg : w.grownBy w' (some rg)) (hne : v.ownBlock ≠ some rg) : Pipes w' b v ps :=
  ⟨h.1.kept hg (.inr hne), h.2⟩

theorem set_same (P : List Int) (e : Nat) : P.set e (P.getD e 0) = P := by
  by_cases h : e < P.length
  · rw [List.getD_eq_getElem?_getD, List.getElem?_eq_getElem h, Option.getD_some, List.set_getElem_self]
  · rw [List.set_eq_of_length_le (by omega)]

/-- what is known while prices and steps are made and laid into their variables -/
structure PSt (W : World) (N : Nat) (S : List Int) (a2 a6 a7 a8 a9 a10 : Value) (w : World) : Prop where
  b : Below W.heap.size W w
  r2 : a2 = undef ∨ ∃ g, a2 = .slice (some ⟨g, 0, none⟩) N N ∧ Row w W.heap.size g N N (List.replicate N 0)
  r6 : a6 = undef ∨ Ints w W.heap.size a6 S
  r7 : a7 = undef ∨ ∃ g x, a7 = .pointer (some ⟨g, 0, none⟩) ∧ W.heap.size ≤ g ∧ g < w.heap.size ∧ w.cell? ⟨g, 0, none⟩ = some x ∧ w.frozen? ⟨g, 0, none⟩ = false
  r8 : a8 = undef ∨ ∃ g x, a8 = .pointer (some ⟨g, 0, none⟩) ∧ W.heap.size ≤ g ∧ g < w.heap.size ∧ w.cell? ⟨g, 0, none⟩ = some x ∧ w.frozen? ⟨g, 0, none⟩ = false
  ap : apartU [2, 6, 7, 8] (fun k => if k = 2 then a2 else if k = 6 then a6 else if k = 7 then a7 else a8) w
  s9 : a9 = .bool true → ∃ g, a7 = .pointer (some ⟨g, 0, none⟩) ∧ w.cell? ⟨g, 0, none⟩ = some a2 ∧ a2 ≠ undef
  s10 : a10 = .bool true → ∃ g, a8 = .pointer (some ⟨g, 0, none⟩) ∧ w.cell? ⟨g, 0, none⟩ = some a6 ∧ a6 ≠ undef

section
variable {W w w' : World} {N : Nat} {S : List Int} {a2 a6 a7 a8 a9 a10 : Value}
theorem frozen_keep {o : Nat} {g : Nat} (hb : Below w.heap.size w w') (hg : g < w.heap.size) (h : w.frozen? ⟨g, o, none⟩ = false) : w'.frozen? ⟨g, o, none⟩ = false := (hb.frozen (p := ⟨g, o, none⟩) hg).trans h
theorem apart_more {S : List Nat} {u : Nat → Value} (h : apartU S u w) (hs : w.heap.size ≤ w'.heap.size) : apartU S u w' := ⟨fun i hi a ha => Nat.lt_of_lt_of_le (h.1 i hi a ha) hs, h.2⟩
theorem PSt.keep (h : PSt W N S a2 a6 a7 a8 a9 a10 w) (hb : Below w.heap.size w w') : PSt W N S a2 a6 a7 a8 a9 a10 w' where
  b := h.b.trans (hb.mono h.b.size)
  r2 := by rcases h.r2 with h | ⟨g, h1, h2⟩
           · exact .inl h
           · exact .inr ⟨g, h1, h2.keep hb⟩
  r6 := by rcases h.r6 with h | h
           · exact .inl h
           · exact .inr (h.keep hb)
  r7 := by rcases h.r7 with h | ⟨g, x, h1, h2, h3, h4, h5⟩
           · exact .inl h
           · exact .inr ⟨g, x, h1, h2, by have := hb.size; omega, (bel_cell hb h3).trans h4, frozen_keep hb h3 h5⟩
  r8 := by rcases h.r8 with h | ⟨g, x, h1, h2, h3, h4, h5⟩
           · exact .inl h
           · exact .inr ⟨g, x, h1, h2, by have := hb.size; omega, (bel_cell hb h3).trans h4, frozen_keep hb h3 h5⟩
  ap := apart_more h.ap hb.size
  s9 := fun e => by
    obtain ⟨g, h1, h2, h3⟩ := h.s9 e
    refine ⟨g, h1, (bel_cell hb ?_).trans h2, h3⟩
    rcases h.r7 with h7 | ⟨g', x, h1', h2', h3', -⟩
    · rw [h7] at h1; cases h1
    · rw [h1'] at h1; injection h1 with h1; injection h1 with h1; injection h1 with h1; omega
  s10 := fun e => by
    obtain ⟨g, h1, h2, h3⟩ := h.s10 e
    refine ⟨g, h1, (bel_cell hb ?_).trans h2, h3⟩
    rcases h.r8 with h7 | ⟨g', x, h1', h2', h3', -⟩
    · rw [h7] at h1; cases h1
    · rw [h1'] at h1; injection h1 with h1; injection h1 with h1; injection h1 with h1; omega

theorem ap_at (h : PSt W N S a2 a6 a7 a8 a9 a10 w) : (∀ a, blkOf a2 = some a → a < w.heap.size) ∧ (∀ a, blkOf a6 = some a → a < w.heap.size) ∧ (∀ a, blkOf a7 = some a → a < w.heap.size) ∧ (∀ a, blkOf a8 = some a → a < w.heap.size) ∧
    (∀ a b, blkOf a2 = some a → blkOf a6 = some b → a ≠ b) ∧ (∀ a b, blkOf a2 = some a → blkOf a7 = some b → a ≠ b) ∧ (∀ a b, blkOf a2 = some a → blkOf a8 = some b → a ≠ b) ∧
    (∀ a b, blkOf a6 = some a → blkOf a7 = some b → a ≠ b) ∧ (∀ a b, blkOf a6 = some a → blkOf a8 = some b → a ≠ b) ∧ (∀ a b, blkOf a7 = some a → blkOf a8 = some b → a ≠ b) := by
  obtain ⟨h1, h2⟩ := h.ap
  refine ⟨fun a ha => h1 2 (by simp) a (by simpa using ha), fun a ha => h1 6 (by simp) a (by simpa using ha), fun a ha => h1 7 (by simp) a (by simpa using ha), fun a ha => h1 8 (by simp) a (by simpa using ha),
    fun a b ha hb => h2 2 (by simp) 6 (by simp) (by simp) a b (by simpa using ha) (by simpa using hb), fun a b ha hb => h2 2 (by simp) 7 (by simp) (by simp) a b (by simpa using ha) (by simpa using hb),
    fun a b ha hb => h2 2 (by simp) 8 (by simp) (by simp) a b (by simpa using ha) (by simpa using hb), fun a b ha hb => h2 6 (by simp) 7 (by simp) (by simp) a b (by simpa using ha) (by simpa using hb),
    fun a b ha hb => h2 6 (by simp) 8 (by simp) (by simp) a b (by simpa using ha) (by simpa using hb), fun a b ha hb => h2 7 (by simp) 8 (by simp) (by simp) a b (by simpa using ha) (by simpa using hb)⟩

theorem ap_mk (h : (∀ a, blkOf a2 = some a → a < w.heap.size) ∧ (∀ a, blkOf a6 = some a → a < w.heap.size) ∧ (∀ a, blkOf a7 = some a → a < w.heap.size) ∧ (∀ a, blkOf a8 = some a → a < w.heap.size) ∧
    (∀ a b, blkOf a2 = some a → blkOf a6 = some b → a ≠ b) ∧ (∀ a b, blkOf a2 = some a → blkOf a7 = some b → a ≠ b) ∧ (∀ a b, blkOf a2 = some a → blkOf a8 = some b → a ≠ b) ∧
    (∀ a b, blkOf a6 = some a → blkOf a7 = some b → a ≠ b) ∧ (∀ a b, blkOf a6 = some a → blkOf a8 = some b → a ≠ b) ∧ (∀ a b, blkOf a7 = some a → blkOf a8 = some b → a ≠ b)) :
    apartU [2, 6, 7, 8] (fun k => if k = 2 then a2 else if k = 6 then a6 else if k = 7 then a7 else a8) w := by
  obtain ⟨h1, h2, h3, h4, h5, h6, h7, h8, h9, h10⟩ := h
  refine ⟨?_, ?_⟩
  · intro i hi a ha
    simp only [List.mem_cons, List.not_mem_nil, or_false] at hi
    rcases hi with rfl | rfl | rfl | rfl
    · exact h1 a (by simpa using ha)
    · exact h2 a (by simpa using ha)
    · exact h3 a (by simpa using ha)
    · exact h4 a (by simpa using ha)
  · intro i hi j hj hij a b ha hb
    simp only [List.mem_cons, List.not_mem_nil, or_false] at hi hj
    rcases hi with rfl | rfl | rfl | rfl <;> rcases hj with rfl | rfl | rfl | rfl <;> first | (exact absurd rfl hij) | skip
    · exact h5 a b (by simpa using ha) (by simpa using hb)
    · exact h6 a b (by simpa using ha) (by simpa using hb)
    · exact h7 a b (by simpa using ha) (by simpa using hb)
    · exact (h5 b a (by simpa using hb) (by simpa using ha)).symm
    · exact h8 a b (by simpa using ha) (by simpa using hb)
    · exact h9 a b (by simpa using ha) (by simpa using hb)
    · exact (h6 b a (by simpa using hb) (by simpa using ha)).symm
    · exact (h8 b a (by simpa using hb) (by simpa using ha)).symm
    · exact h10 a b (by simpa using ha) (by simpa using hb)
    · exact (h7 b a (by simpa using hb) (by simpa using ha)).symm
    · exact (h9 b a (by simpa using hb) (by simpa using ha)).symm
    · exact (h10 b a (by simpa using hb) (by simpa using ha)).symm

theorem PSt.set7 (h : PSt W N S a2 a6 a7 a8 a9 a10 w) {g : Nat} (e7 : a7 = .pointer (some ⟨g, 0, none⟩)) (h2 : a2 ≠ undef) : PSt W N S a2 a6 a7 a8 (.bool true) a10 (w.setCell ⟨g, 0, none⟩ a2) := by
  obtain ⟨p1, p2, p3, p4, p5, p6, p7, p8, p9, p10⟩ := ap_at h
  have b7 : blkOf a7 = some g := by rw [e7]; rfl
  obtain ⟨x, hgW, hgw, hx, hfz⟩ : ∃ x, W.heap.size ≤ g ∧ g < w.heap.size ∧ w.cell? ⟨g, 0, none⟩ = some x ∧ w.frozen? ⟨g, 0, none⟩ = false := by
    rcases h.r7 with h7 | ⟨g', x, q1, q2, q3, q4, q5⟩
    · rw [h7] at e7; cases e7
    · rw [q1] at e7; injection e7 with e7; injection e7 with e7; injection e7 with e7; subst e7; exact ⟨x, q2, q3, q4, q5⟩
  refine ⟨h.b.setCell hgW _, ?_, ?_, ?_, ?_, apart_more h.ap (by simp), ?_, ?_⟩
  · rcases h.r2 with q | ⟨g2, q1, q2⟩
    · exact .inl q
    · exact .inr ⟨g2, q1, q2.far (by simp; intro e; exact p6 g2 g (by rw [q1]; rfl) b7 e.symm) _⟩
  · rcases h.r6 with q | q
    · exact .inl q
    · refine .inr ?_
      refine ints_off q (grow_set (grow_refl w (some g)) (.inr rfl) a2) ?_
      intro hb
      refine p8 g g ?_ b7 rfl
      obtain ⟨A, c, hv, -⟩ := q.form
      rw [hv] at hb ⊢
      cases A with
      | none => cases hb
      | some A => exact hb
  · exact .inr ⟨g, a2, e7, hgW, by simpa using hgw, World.cell?_setCell_same _ _ _ (by rw [hx]), by simpa using hfz⟩
  · rcases h.r8 with q | ⟨g8, x8, q1, q2, q3, q4, q5⟩
    · exact .inl q
    · have hne : g ≠ g8 := p10 g g8 b7 (by rw [q1]; rfl)
      exact .inr ⟨g8, x8, q1, q2, by simpa using q3, (World.cell?_setCell_other _ _ _ _ (by intro e; injection e with e; exact hne e)).trans q4, by simpa using q5⟩
  · intro _
    exact ⟨g, e7, World.cell?_setCell_same _ _ _ (by rw [hx]), h2⟩
  · intro e
    obtain ⟨g8, q1, q2, q3⟩ := h.s10 e
    have hne : g ≠ g8 := p10 g g8 b7 (by rw [q1]; rfl)
    exact ⟨g8, q1, (World.cell?_setCell_other _ _ _ _ (by intro e; injection e with e; exact hne e)).trans q2, q3⟩
theorem PSt.set8 (h : PSt W N S a2 a6 a7 a8 a9 a10 w) {g : Nat} (e8 : a8 = .pointer (some ⟨g, 0, none⟩)) (h6 : a6 ≠ undef) : PSt W N S a2 a6 a7 a8 a9 (.bool true) (w.setCell ⟨g, 0, none⟩ a6) := by
  obtain ⟨p1, p2, p3, p4, p5, p6, p7, p8, p9, p10⟩ := ap_at h
  have b8 : blkOf a8 = some g := by rw [e8]; rfl
  obtain ⟨x, hgW, hgw, hx, hfz⟩ : ∃ x, W.heap.size ≤ g ∧ g < w.heap.size ∧ w.cell? ⟨g, 0, none⟩ = some x ∧ w.frozen? ⟨g, 0, none⟩ = false := by
    rcases h.r8 with h8 | ⟨g', x, q1, q2, q3, q4, q5⟩
    · rw [h8] at e8; cases e8
    · rw [q1] at e8; injection e8 with e8; injection e8 with e8; injection e8 with e8; subst e8; exact ⟨x, q2, q3, q4, q5⟩
  refine ⟨h.b.setCell hgW _, ?_, ?_, ?_, ?_, apart_more h.ap (by simp), ?_, ?_⟩
  · rcases h.r2 with q | ⟨g2, q1, q2⟩
    · exact .inl q
    · exact .inr ⟨g2, q1, q2.far (by simp; intro e; exact p7 g2 g (by rw [q1]; rfl) b8 e.symm) _⟩
  · rcases h.r6 with q | q
    · exact .inl q
    · refine .inr ?_
      refine ints_off q (grow_set (grow_refl w (some g)) (.inr rfl) a6) ?_
      intro hb
      refine p9 g g ?_ b8 rfl
      obtain ⟨A, c, hv, -⟩ := q.form
      rw [hv] at hb ⊢
      cases A with
      | none => cases hb
      | some A => exact hb
  · rcases h.r7 with q | ⟨g7, x7, q1, q2, q3, q4, q5⟩
    · exact .inl q
    · have hne : g ≠ g7 := fun e => p10 g7 g (by rw [q1]; rfl) b8 e.symm
      exact .inr ⟨g7, x7, q1, q2, by simpa using q3, (World.cell?_setCell_other _ _ _ _ (by intro e; injection e with e; exact hne e)).trans q4, by simpa using q5⟩
  · exact .inr ⟨g, a6, e8, hgW, by simpa using hgw, World.cell?_setCell_same _ _ _ (by rw [hx]), by simpa using hfz⟩
  · intro e
    obtain ⟨g7, q1, q2, q3⟩ := h.s9 e
    have hne : g ≠ g7 := fun e => p10 g7 g (by rw [q1]; rfl) b8 e.symm
    exact ⟨g7, q1, (World.cell?_setCell_other _ _ _ _ (by intro e; injection e with e; exact hne e)).trans q2, q3⟩
  · intro _
    exact ⟨g, e8, World.cell?_setCell_same _ _ _ (by rw [hx]), h6⟩
end

theorem PSt.start {W w : World} (N : Nat) (S : List Int) (h : Below W.heap.size W w) : PSt W N S undef undef undef undef undef undef w := by
  have hb : ∀ a, blkOf undef = some a → False := fun a h => by
    have h' : (none : Option Nat) = some a := h
    cases h'
  refine ⟨h, .inl rfl, .inl rfl, .inl rfl, .inl rfl, ap_mk ⟨fun a h => (hb a h).elim, fun a h => (hb a h).elim, fun a h => (hb a h).elim, fun a h => (hb a h).elim, fun a _ h _ => (hb a h).elim, fun a _ h _ => (hb a h).elim, fun a _ h _ => (hb a h).elim, fun a _ h _ => (hb a h).elim, fun a _ h _ => (hb a h).elim, fun a _ h _ => (hb a h).elim⟩, fun h => ?_, fun h => ?_⟩
  · cases h
  · cases h

/-- what the operations ahead of the rounds yield -/
def pfV (B0 N : Nat) (v u : Value) : Nat → Value → Prop
  | 0, x => x = .pointer (some ⟨B0, 0, none⟩)
  | 1, x => x = .int .i64 N
  | 2, x => ∃ g, x = .slice (some ⟨g, 0, none⟩) N N
  | 3, x => x = .pointer (some ⟨B0, 1, none⟩)
  | 4, x => x = v
  | 5, x => x = u
  | 6, x => x ≠ undef
  | 7, x => ∃ g, x = .pointer (some ⟨g, 0, none⟩)
  | 8, x => ∃ g, x = .pointer (some ⟨g, 0, none⟩)
  | 9, x => x = .bool true
  | 10, x => x = .bool true
  | _, _ => True

theorem blk_fresh {w' : World} {b : Nat} {v : Value} {xs : List Int} (h : Ints w' b v xs) : ∀ a, blkOf v = some a → b ≤ a ∧ a < w'.heap.size := by
  intro a ha
  obtain ⟨A, c, hv, -⟩ := h.form
  cases A with
  | none => rw [hv] at ha; cases ha
  | some A =>
    refine h.1.lt a ?_
    rw [hv] at ha ⊢
    exact ha

end Go.Proofs.Ytphbmlephldaaaa
