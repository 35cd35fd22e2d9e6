/- The flow law again, where what is known of the world may speak of all values so far. -/
import Derived.Test.YtabkhpeoeihmmaaF1
namespace Go.Proofs.Ytabkhpeoeihmmaa
open Go.RowKit
section
variable {P : Program} {l : List Oper} {skip : Nat} {D : List (Nat × Tmp)} {a0 : Act} {u : Nat → Value}

/-- what is asked of one operation -/
def flowG (V : Nat → Value → (Nat → Value) → World → Prop) (R : Nat → World → World → Prop) (C : Value → World → Prop) (i : Nat) (d : Option Tmp) (u : Nat → Value) (a : Act) (w : World) : Exit → Act → World → Prop
  | .normal, a', w' => ∃ v, a' = a.put d v ∧ V i v u w' ∧ R i w w' ∧ C v w'
  | _, _, _ => False

theorem wp_flowG {Q : Exit → Act → World → Prop} {V : Nat → Value → (Nat → Value) → World → Prop} {R : Nat → World → World → Prop} {C : Value → World → Prop} {i : Nat} {o : Oper} {a : Act} {w : World} {K : Act → World → Prop} (hi : l[i]? = some o)
    (h : wpList P l.toArray (flowG V R C i o.dst u a w) [o] a w) (hK : ∀ v w', V i v u w' → R i w w' → C v w' → K (a.put o.dst v) w') : wpOp P l.toArray Q i K a w := by
  unfold wpOp
  have hi' : l.toArray[i]? = some o := by simpa using hi
  simp only [hi']
  simp only [wpList] at h
  split
  · rename_i hw
    rw [if_pos hw] at h
    refine .inl ?_
    rcases h with h | ⟨-, a', w', h⟩
    · unfold Oper.wp at h ⊢
      generalize (execOp a.eval o).run P w = r at *
      have kk : ∀ (a1 : Act) (w1 : World), flowG V R C i o.dst u a w .normal a1 w1 → K a1 w1 := by
        rintro a1 w1 ⟨v, rfl, h1, h2, h3⟩
        exact hK v w1 h1 h2 h3
      cases r with
      | ok n w1 =>
        cases n <;> simp only [Oper.upon] at h ⊢
        case value u' => exact kk _ _ h
        case skip => exact kk _ _ h
        case defer d => exact kk _ _ h
        case enter f args =>
          refine h.mono fun e w2 he => ?_
          cases e with
          | returned v => exact kk _ _ he
          | panicked c => exact he.elim
          | outgrown => obtain ⟨a3, w3, h3⟩ := he; exact h3.elim
        case row r args => exact h.mono fun v w2 he => kk _ _ he
      | halt x w1 =>
        cases x <;> simp only [Oper.upon] at h ⊢
        case panic v => exact h.elim
    · exact h.elim
  · rename_i hw
    rw [if_neg hw] at h
    obtain ⟨v, h0, h1, h2, h3⟩ := h
    rw [h0]
    exact hK v w h1 h2 h3

theorem flow_anyG {Q : Exit → Act → World → Prop} {V : Nat → Value → (Nat → Value) → World → Prop} {R : Nat → World → World → Prop} {C : Nat → (Nat → Value) → World → Prop} (hB : flowB l skip D = true)
    (hst : ∀ i k, i < l.length → k < l.length → aliveB l i k = true → ∀ x u w w', R i w w' → V k x u w → V k x u w')
    (hloc : ∀ k, k < l.length → ∀ x u u' w, (∀ j ∈ usesAt l k, u j = u' j) → V k x u w → V k x u' w)
    (hop : ∀ i o, l[i]? = some o → ∀ (u uu : Nat → Value) (f : Nat) (w : World), C (f + 1) uu w → uu i = undef → (∀ j ∈ useOf o, u j = uu j) → allV V u w (useOf o) → (afterN l i ≤ f ∧ f ≤ freeN l i) → wpList P l.toArray (flowG V R (fun x => C f (fun k => if k = i then x else uu k)) i o.dst u (fillF a0 u D) w) [o] (fillF a0 u D) w)
    (hend : ∀ (u : Nat → Value) (f : Nat) (w : World), C f u w → (∀ k, k < l.length → finB l k = true → V k (u k) u w) → Q .normal (fillEnd a0 u D skip (dstAt l skip)) w) :
    ∀ (f : Nat) (listed : Array Bool) (a : Act) (w : World) (u : Nat → Value), listed.size = l.length → leftN l.length listed = f → InvF l a0 V u listed a w → (∀ k, listed.getD k false = false → u k = undef) → C f u w → wpAny P .any l.toArray Q f listed a w := by
  obtain ⟨b1, b2, b3, b4⟩ := flow_parts hB
  intro f
  induction f with
  | zero =>
    intro listed a w u hz hn hI hun hC
    have hall : ∀ k, k < l.length → listed.getD k false = true := by
      intro k hk
      rcases hl : listed.getD k false with _ | _
      · have := left_lt hk hz hl; omega
      · rfl
    refine ⟨?_, ?_⟩
    · rcases hr : Region.ready .any l.toArray listed with _ | ⟨x, xs⟩
      · rfl
      · have hx : x ∈ Region.ready .any l.toArray listed := by rw [hr]; simp
        obtain ⟨h0, o, ho, -⟩ := mem_ready.1 hx
        have hxl : x < l.length := by
          have := (Array.getElem?_eq_some_iff.1 ho).1
          simpa using this
        have h1 := hall x hxl
        have hxs : x < listed.size := by omega
        simp [hxs] at h0 h1
        rw [h0] at h1
        cases h1
    · rw [at_end hB hI.at' hall]
      exact hend u 0 w hC fun k hk hf => hI.fin k hk (hall k hk) hf
  | succ f ih =>
    intro listed a w u hz hn hI hun hC
    refine ⟨fun hr => ?_, fun i hir => ?_⟩
    · have hall := ready_none hz b2 hr
      rw [at_end hB hI.at' hall]
      exact hend u _ w hC fun k hk hf => hI.fin k hk (hall k hk) hf
    · obtain ⟨h0, o, ho, hdep⟩ := mem_ready.1 hir
      have hi : l[i]? = some o := by simpa using ho
      have hil : i < l.length := (List.getElem?_eq_some_iff.1 hi).1
      have hiu : listed.getD i false = false := by
        have : i < listed.size := by omega
        simpa [this] using h0
      have hdl : ∀ j ∈ depsAt l i, listed.getD j false = true := fun j hj => by
        obtain ⟨e, he, hbd, rfl⟩ := (deps_mem hi).1 hj
        exact hdep e he hbd
      have hsk : skip < l.length → listed.getD skip false = false := fun hs => by
        by_cases e : i = skip
        · rw [← e]; exact hiu
        · rcases hl : listed.getD skip false with _ | _
          · rfl
          · have := later_listed b2 hI.cl l.length i skip hs (b4 hs i hil e) hl
            rw [hiu] at this
            cases this
      have ha := at_fill hB hI.at' hsk
      have hdo : usesAt l i = useOf o := by simp [usesAt, hi]
      have hV : allV V (initU l a0 listed u) w (useOf o) := allV_mem fun k hk => by
        have hl := hdl k (uses_deps (by rw [hdo]; exact hk))
        have hkl : k < l.length := by have := b2 i k hil (uses_deps (by rw [hdo]; exact hk)); omega
        have e : initU l a0 listed u k = u k := by rw [initU, if_pos hl]
        rw [e]
        exact hloc k hkl _ u _ w (fun j hj => by rw [initU, if_pos (hI.cl k j hkl hl (uses_deps hj))]) (hI.v k i hil hl hiu (by rw [hdo]; exact hk))
      have hlink : ∀ j ∈ useOf o, initU l a0 listed u j = u j := fun j hj => by
        rw [initU, if_pos (hdl j (uses_deps (by rw [hdo]; exact hj)))]
      rw [ha]
      have hone : leftN l.length (listed.setIfInBounds i true) = f := by
        have := left_eq (listed := listed) (i := i) (by omega) hiu l.length
        rw [if_pos hil] at this
        omega
      have hlast : afterN l i ≤ f ∧ f ≤ freeN l i := by
        rw [← hone]
        refine ⟨List.countP_mono_left fun k hk hp => ?_, List.countP_mono_left fun k hk hp => ?_⟩
        · have hkl := List.mem_range.1 hk
          rcases hk1 : (listed.setIfInBounds i true).getD k false with _ | _
          · rfl
          · exfalso
            by_cases e : k = i
            · subst e
              have := later_lt b2 l.length k k hil hp
              omega
            · rw [getD_set_ne false (Ne.symm e)] at hk1
              have := later_listed b2 hI.cl l.length i k hkl hp hk1
              rw [hiu] at this
              cases this
        · have hkl := List.mem_range.1 hk
          by_cases e : k = i
          · subst e
            rw [getD_set_same false (by omega)] at hp
            simp at hp
          · rw [getD_set_ne false (Ne.symm e)] at hp
            have hk1 : listed.getD k false = false := by simpa using hp
            rcases hL : laterB l l.length k i with _ | _
            · simp [e]
            · exfalso
              have : ∀ (f i : Nat), i < l.length → (∀ j ∈ depsAt l i, listed.getD j false = true) → laterB l f k i = true → listed.getD k false = true := by
                intro f i hi hd h
                cases f with
                | zero => simp [laterB] at h
                | succ f =>
                  simp only [laterB, List.any_eq_true, Bool.or_eq_true, beq_iff_eq] at h
                  obtain ⟨j, hj, h⟩ := h
                  rcases h with rfl | h
                  · exact hd _ hj
                  · exact later_listed b2 hI.cl f k j (by have := b2 i j hi hj; omega) h (hd j hj)
              have := this l.length i hil hdl hL
              rw [hk1] at this
              cases this
      refine wp_flowG (C := fun x => C f (fun k => if k = i then x else u k)) hi (hop i o hi _ u f w hC (hun i hiu) hlink hV hlast) fun v w' h1 h2 h3 => ?_
      have h1 : V i v (fun k => if k = i then v else u k) w' := hloc i hil _ _ _ w' (fun j hj => by
        have hji : j ≠ i := by have := b2 i j hil (uses_deps hj); omega
        rw [if_neg hji, initU, if_pos (hdl j (uses_deps hj))]) h1
      have hcl' : ∀ k j, k < l.length → (listed.setIfInBounds i true).getD k false = true → j ∈ depsAt l k → (listed.setIfInBounds i true).getD j false = true := by
        intro k j hk hkl hj
        by_cases hki : k = i
        · subst hki
          exact getD_set_true (hdl j hj)
        · rw [getD_set_ne false (Ne.symm hki)] at hkl
          exact getD_set_true (hI.cl k j hk hkl hj)
      rw [← ha]
      refine ih _ _ w' (fun k => if k = i then v else u k) (by simpa using hz) hone ⟨at_put hB hI.at' hi hz, fun k j hj hk hju hkj => ?_, fun k hk hkl hf => ?_, hcl'⟩ (fun k hk => by
        have hki : k ≠ i := fun e => by
          subst e
          rw [getD_set_same false (by omega)] at hk
          cases hk
        rw [getD_set_ne false (Ne.symm hki)] at hk
        simp only [if_neg hki]
        exact hun k hk) h3
      · by_cases hki : k = i
        · subst hki; simp only [if_true]; exact h1
        · (try dsimp only)
          rw [if_neg hki]
          rw [getD_set_ne false (Ne.symm hki)] at hk
          have hlj : laterB l l.length j i = false := by
            rcases hlj : laterB l l.length j i with _ | _
            · rfl
            · have := later_listed b2 hcl' l.length j i hil hlj (getD_set_same false (by omega))
              rw [hju] at this; cases this
          have hji : j ≠ i := fun e => by
            subst e
            rw [getD_set_same false (by omega)] at hju
            cases hju
          rw [getD_set_ne false (Ne.symm hji)] at hju
          have hkl : k < l.length := by have := b2 j k hj (uses_deps hkj); omega
          refine hloc k hkl _ u _ w' (fun j2 hj2 => ?_) (hst i k hil hkl ?_ _ u w w' h2 (hI.v k j hj hk hju hkj))
          · have hj3 := hI.cl k j2 hkl hk (uses_deps hj2)
            have hji2 : j2 ≠ i := fun e => by subst e; rw [hiu] at hj3; cases hj3
            rw [if_neg hji2]
          have hla : laterB l l.length i k = false := by
            rcases hla : laterB l l.length i k with _ | _
            · rfl
            · have := later_listed b2 hI.cl l.length i k hkl hla hk
              rw [hiu] at this; cases this
          simp only [aliveB, heldB, hla, Bool.or_eq_true, List.any_eq_true, List.mem_range, Bool.and_eq_true, bne_iff_ne, ne_eq, Bool.not_false, and_true]
          exact ⟨.inr ⟨j, hj, ⟨hji, by simpa using hkj⟩, by rw [hlj]; rfl⟩, hki⟩
      · by_cases hki : k = i
        · subst hki; simp only [if_true]; exact h1
        · (try dsimp only)
          rw [if_neg hki]
          rw [getD_set_ne false (Ne.symm hki)] at hkl
          refine hloc k hk _ u _ w' (fun j2 hj2 => ?_) (hst i k hil hk ?_ _ u w w' h2 (hI.fin k hk hkl hf))
          · have hj3 := hI.cl k j2 hk hkl (uses_deps hj2)
            have hji2 : j2 ≠ i := fun e => by subst e; rw [hiu] at hj3; cases hj3
            rw [if_neg hji2]
          have hla : laterB l l.length i k = false := by
            rcases hla : laterB l l.length i k with _ | _
            · rfl
            · have := later_listed b2 hI.cl l.length i k hk hla hkl
              rw [hiu] at this; cases this
          simp [aliveB, heldB, hf, hla, hki]

theorem wp_region_flowG {id : Nat} {Q : Exit → Act → World → Prop} {w0 : World} (skip : Nat) (dk : Option Tmp) (D : List (Nat × Tmp)) (V : Nat → Value → (Nat → Value) → World → Prop) (R : Nat → World → World → Prop) (C : Nat → (Nat → Value) → World → Prop) (hm : P.follows .mixedOrders = true) (hB : flowB l skip D = true) (hdk : dstAt l skip = dk)
    (hC : C l.length (fun _ => undef) { w0 with drawn := w0.drawn + 1 })
    (hst : ∀ i k, i < l.length → k < l.length → aliveB l i k = true → ∀ x u w w', R i w w' → V k x u w → V k x u w')
    (hloc : ∀ k, k < l.length → ∀ x u u' w, (∀ j ∈ usesAt l k, u j = u' j) → V k x u w → V k x u' w)
    (hop : eachOp (fun i o => ∀ (u uu : Nat → Value) (f : Nat) (w : World), C (f + 1) uu w → uu i = undef → (∀ j ∈ useOf o, u j = uu j) → allV V u w (useOf o) → (afterN l i ≤ f ∧ f ≤ freeN l i) → wpList P l.toArray (flowG V R (fun x => C f (fun k => if k = i then x else uu k)) i o.dst u (fillF a0 u D) w) [o] (fillF a0 u D) w) 0 l)
    (hend : ∀ (u : Nat → Value) (f : Nat) (w : World), C f u w → (∀ k, k < l.length → finB l k = true → V k (u k) u w) → Q .normal (fillEnd a0 u D skip dk) w) :
    (Code.region id l.toArray true).wp P Q a0 w0 := by
  subst hdk
  refine wp_region_any hm ?_
  have hsz : l.toArray.size = l.length := by simp
  rw [hsz]
  have hno : ∀ k, (Array.replicate l.length false).getD k false = false := fun k => by
    by_cases h : k < l.length <;> simp [h]
  refine flow_anyG hB hst hloc (fun i o hi => by have := each_all hop i o hi; rwa [Nat.zero_add] at this) hend _ _ _ _ (fun _ => undef) (by simp) ?_ ⟨⟨rfl, rfl, fun s _ => rfl, fun k s hk hd hl _ => ?_⟩, fun k j hj hk _ _ => ?_, fun k hk hl _ => ?_, fun k j hk hl _ => ?_⟩ (fun _ _ => rfl) hC
  · unfold leftN
    rw [List.countP_eq_length.2 (fun k _ => by rw [hno]; rfl), List.length_range]
  · rw [hno] at hl; cases hl
  · rw [hno] at hk; cases hk
  · rw [hno] at hl; cases hl
  · rw [hno] at hl; cases hl

end

/-- the block of a slice or of a pointer -/
def blkOf : Value → Option Nat
  | .slice (some a) _ _ => some a.block
  | .pointer (some a) => some a.block
  | _ => none
/-- the blocks of some values are there, and different ones -/
def apartU (S : List Nat) (u : Nat → Value) (w : World) : Prop := (∀ i ∈ S, ∀ a, blkOf (u i) = some a → a < w.heap.size) ∧ ∀ i ∈ S, ∀ j ∈ S, i ≠ j → ∀ a b, blkOf (u i) = some a → blkOf (u j) = some b → a ≠ b
theorem apart_start (S : List Nat) (w : World) : apartU S (fun _ => undef) w := ⟨fun _ _ a h => (by cases (show (none : Option Nat) = some a from h)), fun _ _ _ _ _ a b h => (by cases (show (none : Option Nat) = some a from h))⟩
theorem apart_other {S : List Nat} {u : Nat → Value} {w w' : World} (h : apartU S u w) (hs : w.heap.size ≤ w'.heap.size) (i : Nat) (hi : i ∉ S) (x : Value) : apartU S (fun k => if k = i then x else u k) w' := by
  refine ⟨fun j hj a hb => ?_, fun j hj k hk hjk a b ha hb => ?_⟩
  · have : j ≠ i := fun e => hi (e ▸ hj)
    simp only [if_neg this] at hb
    exact Nat.lt_of_lt_of_le (h.1 j hj a hb) hs
  · have e1 : j ≠ i := fun e => hi (e ▸ hj)
    have e2 : k ≠ i := fun e => hi (e ▸ hk)
    simp only [if_neg e1] at ha
    simp only [if_neg e2] at hb
    exact h.2 j hj k hk hjk a b ha hb
theorem apart_new {S : List Nat} {u : Nat → Value} {w w' : World} (h : apartU S u w) (hs : w.heap.size ≤ w'.heap.size) (i : Nat) (x : Value) (hx : ∀ a, blkOf x = some a → w.heap.size ≤ a ∧ a < w'.heap.size) : apartU S (fun k => if k = i then x else u k) w' := by
  refine ⟨fun j hj a hb => ?_, fun j hj k hk hjk a b ha hb => ?_⟩
  · by_cases e : j = i
    · simp only [if_pos e] at hb
      exact (hx a hb).2
    · simp only [if_neg e] at hb
      exact Nat.lt_of_lt_of_le (h.1 j hj a hb) hs
  · by_cases e1 : j = i <;> by_cases e2 : k = i
    · omega
    · simp only [if_pos e1] at ha
      simp only [if_neg e2] at hb
      have h1 := (hx a ha).1
      have h2 := h.1 k hk b hb
      omega
    · simp only [if_neg e1] at ha
      simp only [if_pos e2] at hb
      have h1 := (hx b hb).1
      have h2 := h.1 j hj a ha
      omega
    · simp only [if_neg e1] at ha
      simp only [if_neg e2] at hb
      exact h.2 j hj k hk hjk a b ha hb

end Go.Proofs.Ytabkhpeoeihmmaa
