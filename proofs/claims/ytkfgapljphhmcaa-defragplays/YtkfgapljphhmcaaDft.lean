/- Layer 7: a table in memory, and what its map's turns make of it. -/
import Derived.Test.YtkfgapljphhmcaaDfs4
namespace Go.Proofs.Ytkfgapljphhmcaa
open Go.RowKit Go.Maps
set_option linter.unusedVariables false
set_option maxRecDepth 20000
/-- an element of the map: where an entry lies -/
def ptrR (v : Value) : Option (DataW Nat × List MemPlace) :=
  match v with
  | .pointer none => some (.nil, [])
  | .pointer (some a) => if a = ⟨a.block, 0, none⟩ then some (.held a.block, []) else none
  | _ => none
theorem ptrR_some (B : Nat) : ptrR (.pointer (some ⟨B, 0, none⟩)) = some (.held B, []) := by simp [ptrR]
theorem ptrR_none : ptrR (.pointer none) = some (.nil, []) := rfl
theorem ptrR_inv {v : Value} {d : DataW Nat} {ps : List MemPlace} (h : ptrR v = some (d, ps)) : (v = .pointer none ∧ d = .nil) ∨ ∃ B, v = .pointer (some ⟨B, 0, none⟩) ∧ d = .held B := by
  unfold ptrR at h
  split at h
  · simp at h; exact .inl ⟨rfl, h.1.symm⟩
  · rename_i a
    split at h
    · rename_i ha
      simp at h
      refine .inr ⟨a.block, ?_, h.1.symm⟩
      rw [← ha]
    · cases h
  · cases h
def litEq : Lit → Lit → Bool
  | .bool a, .bool b => decide (a = b)
  | .int q a, .int q' b => decide (q = q' ∧ a = b)
  | .float q a, .float q' b => decide (q = q' ∧ a = b)
  | .string a, .string b => decide (a = b)
  | .nil, .nil => true
  | _, _ => false
theorem litEq_iff (a b : Lit) : litEq a b = true ↔ a = b := by
  cases a <;> cases b <;> simp [litEq]
def upd {α : Type} (f : Lit → α) (k : Lit) (v : α) : Lit → α := fun x => if litEq x k = true then v else f x
theorem upd_same {α : Type} (f : Lit → α) (k : Lit) (v : α) : upd f k v k = v := by unfold upd; rw [if_pos ((litEq_iff k k).2 rfl)]
theorem upd_other {α : Type} (f : Lit → α) (k : Lit) (v : α) {x : Lit} (h : x ≠ k) : upd f k v x = f x := by unfold upd; rw [if_neg (fun e => h ((litEq_iff x k).1 e))]
/-- the map's datum, key by key -/
def Reads (D : DataW Nat) (blk : Lit → Option Nat) : Prop := (∀ kl, Maps.has D kl = (blk kl).isSome) ∧ ∀ kl z, D.atKey kl z = match blk kl with | some B => .held B | none => z
structure Tab (w : World) (F : Nat → Prop) (tb mb : Nat) (most ticks : Int) (blk : Lit → Option Nat) (S : Lit → Option Ent) (cnt : Nat) : Prop where
  c0 : w.cell? ⟨tb, 0, none⟩ = some (.int .i64 most)
  c1 : w.cell? ⟨tb, 1, none⟩ = some (.int .i64 ticks)
  c2 : w.cell? ⟨tb, 2, none⟩ = some (.map (some mb))
  map : ∃ D, w.ownsMap Try.prog 54 ptrR mb cnt D ∧ Maps.size D = cnt ∧ Reads D blk
  ent : ∀ kl B, blk kl = some B → ∃ e, S kl = some e ∧ EntAt w B e ∧ e.tot ≤ 2000 ∧ (0 ≤ e.age ∧ e.age < ticks) ∧ F B ∧ B ≠ mb ∧ B ≠ tb
  non : ∀ kl, blk kl = none → S kl = none
  inj : ∀ k1 k2 B, blk k1 = some B → blk k2 = some B → k1 = k2
  ft : F tb
  fm : F mb
  tm : tb ≠ mb
  lt : ∀ b, F b → b < w.heap.size
  few : cnt ≤ 32 ∧ (1 ≤ most ∧ most ≤ 32) ∧ (1 ≤ ticks ∧ ticks ≤ 100000)
  key : ∀ kl, blk kl ≠ none → WideAt.IsKeyLit kl
theorem Tab.block {w w' : World} {F : Nat → Prop} {tb mb : Nat} {most ticks : Int} {blk : Lit → Option Nat} {S : Lit → Option Ent} {cnt : Nat} (h : Tab w F tb mb most ticks blk S cnt) (hs : w.heap.size ≤ w'.heap.size) (hb : ∀ b, F b → w'.heap[b]? = w.heap[b]?) : Tab w' F tb mb most ticks blk S cnt := by
  have c : ∀ o, w'.cell? ⟨tb, o, none⟩ = w.cell? ⟨tb, o, none⟩ := fun o => World.cell?_of_block (a := ⟨tb, o, none⟩) (hb tb h.ft)
  obtain ⟨D, ⟨es, cl, h1, h2⟩, hz, hr⟩ := h.map
  refine ⟨by rw [c, h.c0], by rw [c, h.c1], by rw [c, h.c2], ⟨D, ⟨es, cl, by rw [hb mb h.fm]; exact h1, h2⟩, hz, hr⟩, fun kl B hB => ?_, h.non, h.inj, h.ft, h.fm, h.tm, fun b hF => Nat.lt_of_lt_of_le (h.lt b hF) hs, h.few, h.key⟩
  obtain ⟨e, a1, a2, a3, a4, a5, a6⟩ := h.ent kl B hB
  exact ⟨e, a1, a2.block (hb B a5), a3, a4, a5, a6⟩
theorem Tab.below {w w' : World} {F : Nat → Prop} {tb mb : Nat} {most ticks : Int} {blk : Lit → Option Nat} {S : Lit → Option Ent} {cnt : Nat} (h : Tab w F tb mb most ticks blk S cnt) (hb : Below w.heap.size w w') : Tab w' F tb mb most ticks blk S cnt :=
  h.block hb.size (fun b hF => hb.block b (h.lt b hF))
/-- an entry turned in its place -/
theorem Tab.turn {w w' : World} {F : Nat → Prop} {tb mb : Nat} {most ticks : Int} {blk : Lit → Option Nat} {S : Lit → Option Ent} {cnt : Nat} (h : Tab w F tb mb most ticks blk S cnt) {kl : Lit} {B : Nat} (hB : blk kl = some B) (hg : w.grownBy w' (some B)) {e : Ent} (he : EntAt w' B e) (ht : e.tot ≤ 2000) (ha : 0 ≤ e.age ∧ e.age < ticks) :
    Tab w' F tb mb most ticks blk (upd S kl (some e)) cnt := by
  obtain ⟨e0, _, _, _, _, b5, b6, b7⟩ := h.ent kl B hB
  have g : ∀ b, F b → b ≠ B → w'.heap[b]? = w.heap[b]? := fun b hF hne => hg.block b (h.lt b hF) (by simp [hne])
  have c : ∀ o, w'.cell? ⟨tb, o, none⟩ = w.cell? ⟨tb, o, none⟩ := fun o => World.cell?_of_block (a := ⟨tb, o, none⟩) (g tb h.ft (Ne.symm b7))
  obtain ⟨D, ⟨es, cl, h1, h2⟩, hz, hr⟩ := h.map
  refine ⟨by rw [c, h.c0], by rw [c, h.c1], by rw [c, h.c2], ⟨D, ⟨es, cl, by rw [g mb h.fm (Ne.symm b6)]; exact h1, h2⟩, hz, hr⟩, fun k2 B2 hB2 => ?_, fun k2 hk2 => ?_, h.inj, h.ft, h.fm, h.tm, fun b hF => Nat.lt_of_lt_of_le (h.lt b hF) hg.size, h.few, h.key⟩
  · by_cases hk : k2 = kl
    · subst hk
      rw [hB] at hB2
      cases hB2
      exact ⟨e, upd_same _ _ _, he, ht, ha, b5, b6, b7⟩
    · obtain ⟨e2, a1, a2, a3, a4, a5, a6⟩ := h.ent k2 B2 hB2
      have hne : B2 ≠ B := fun x => hk (h.inj k2 kl B (x ▸ hB2) hB)
      exact ⟨e2, by rw [upd_other _ _ _ hk]; exact a1, a2.block (g B2 a5 hne), a3, a4, a5, a6⟩
  · rw [upd_other _ _ _ (fun x => by subst x; rw [hB] at hk2; cases hk2)]
    exact h.non k2 hk2
theorem Reads.del {D : DataW Nat} {blk : Lit → Option Nat} (h : Reads D blk) (kl : Lit) : Reads (D.del kl) (upd blk kl none) := by
  refine ⟨fun k2 => ?_, fun k2 z => ?_⟩
  · by_cases hk : k2 = kl
    · subst hk; rw [Maps.has_del_same, upd_same]; rfl
    · rw [Maps.has_del_other hk, upd_other _ _ _ hk]; exact h.1 k2
  · by_cases hk : k2 = kl
    · subst hk; rw [Maps.atKey_del_same, upd_same]
    · rw [Maps.atKey_del_other hk, upd_other _ _ _ hk]; exact h.2 k2 z
theorem Reads.put {D : DataW Nat} {blk : Lit → Option Nat} (h : Reads D blk) (hD : Maps.IsMap D) (kl : Lit) (hk0 : WideAt.IsKeyLit kl) (B : Nat) : Reads (D.put kl (.held B)) (upd blk kl (some B)) := by
  refine ⟨fun k2 => ?_, fun k2 z => ?_⟩
  · by_cases hk : k2 = kl
    · subst hk; rw [Maps.has_put_same hD hk0, upd_same]; rfl
    · rw [Maps.has_put_other hk, upd_other _ _ _ hk]; exact h.1 k2
  · by_cases hk : k2 = kl
    · subst hk; rw [Maps.atKey_put_same hD hk0, upd_same]
    · rw [Maps.atKey_put_other hk, upd_other _ _ _ hk]; exact h.2 k2 z
theorem owns_tight {w : World} {b n : Nat} {D : DataW Nat} (h : w.ownsMap Try.prog 54 ptrR b n D) {m : Nat} (hm : Maps.size D = m) : w.ownsMap Try.prog 54 ptrR b m D := by
  obtain ⟨es, cl, h1, h2, h3, rfl⟩ := h
  refine ⟨es, cl, h1, h2, ?_, rfl⟩
  rw [← hm]
  simp [Maps.size, length_sorted]
/-- an entry goes -/
theorem Tab.del {w w' : World} {F : Nat → Prop} {tb mb : Nat} {most ticks : Int} {blk : Lit → Option Nat} {S : Lit → Option Ent} {cnt n : Nat} {D : DataW Nat} (h : Tab w F tb mb most ticks blk S cnt) (kl : Lit) (ho : w.ownsMap Try.prog 54 ptrR mb cnt D) (hz : Maps.size D = cnt) (hr : Reads D blk)
    (ho' : w'.ownsMap Try.prog 54 ptrR mb n (D.del kl)) (hg : w.grownBy w' (some mb)) :
    Tab w' F tb mb most ticks (upd blk kl none) (upd S kl none) (cnt - (if (S kl).isSome then 1 else 0)) := by
  have g : ∀ b, F b → b ≠ mb → w'.heap[b]? = w.heap[b]? := fun b hF hne => hg.block b (h.lt b hF) (by simp [hne])
  have c : ∀ o, w'.cell? ⟨tb, o, none⟩ = w.cell? ⟨tb, o, none⟩ := fun o => World.cell?_of_block (a := ⟨tb, o, none⟩) (g tb h.ft h.tm)
  have hsame : (S kl).isSome = (blk kl).isSome := by
    cases hb : blk kl with
    | none => rw [h.non kl hb]; rfl
    | some B => obtain ⟨e, a1, _⟩ := h.ent kl B hb; rw [a1]; rfl
  have hsz := Maps.size_del (k := kl) (ho.tidy nmLaw)
  rw [hz, hr.1 kl, ← hsame] at hsz
  have hm : Maps.size (D.del kl) = cnt - (if (S kl).isSome then 1 else 0) := by omega
  refine ⟨by rw [c, h.c0], by rw [c, h.c1], by rw [c, h.c2], ⟨_, owns_tight ho' hm, hm, hr.del kl⟩, fun k2 B2 hB2 => ?_, fun k2 hk2 => ?_, fun k1 k2 B h1 h2 => ?_, h.ft, h.fm, h.tm, fun b hF => Nat.lt_of_lt_of_le (h.lt b hF) hg.size, ⟨by have := h.few.1; omega, h.few.2⟩, fun k2 hk2 => ?_⟩
  · by_cases hk : k2 = kl
    · subst hk; rw [upd_same] at hB2; cases hB2
    · rw [upd_other _ _ _ hk] at hB2
      obtain ⟨e2, a1, a2, a3, a4, a5, a6, a7⟩ := h.ent k2 B2 hB2
      exact ⟨e2, by rw [upd_other _ _ _ hk]; exact a1, a2.block (g B2 a5 a6), a3, a4, a5, a6, a7⟩
  · by_cases hk : k2 = kl
    · subst hk; rw [upd_same]
    · rw [upd_other _ _ _ hk] at hk2 ⊢; exact h.non k2 hk2
  · by_cases e1 : k1 = kl
    · subst e1; rw [upd_same] at h1; cases h1
    · by_cases e2 : k2 = kl
      · subst e2; rw [upd_same] at h2; cases h2
      · rw [upd_other _ _ _ e1] at h1
        rw [upd_other _ _ _ e2] at h2
        exact h.inj k1 k2 B h1 h2
  · by_cases hk : k2 = kl
    · subst hk; rw [upd_same] at hk2; exact absurd rfl hk2
    · rw [upd_other _ _ _ hk] at hk2; exact h.key k2 hk2
/-- a new entry -/
theorem Tab.put {w w' : World} {F : Nat → Prop} {tb mb : Nat} {most ticks : Int} {blk : Lit → Option Nat} {S : Lit → Option Ent} {cnt n : Nat} {D : DataW Nat} (h : Tab w F tb mb most ticks blk S cnt) (kl : Lit) (hk0 : WideAt.IsKeyLit kl) (hb0 : blk kl = none) (hc : (cnt : Int) < most) (ho : w.ownsMap Try.prog 54 ptrR mb cnt D) (hz : Maps.size D = cnt) (hr : Reads D blk)
    (B : Nat) (hB : ¬ F B) (he : EntAt w B Ent.zero) (ho' : w'.ownsMap Try.prog 54 ptrR mb n (D.put kl (.held B))) (hg : w.grownBy w' (some mb)) :
    Tab w' (fun b => F b ∨ b = B) tb mb most ticks (upd blk kl (some B)) (upd S kl (some Ent.zero)) (cnt + 1) := by
  have nm : B ≠ mb := fun x => hB (x ▸ h.fm)
  have nt : B ≠ tb := fun x => hB (x ▸ h.ft)
  have g : ∀ b, F b → b ≠ mb → w'.heap[b]? = w.heap[b]? := fun b hF hne => hg.block b (h.lt b hF) (by simp [hne])
  have c : ∀ o, w'.cell? ⟨tb, o, none⟩ = w.cell? ⟨tb, o, none⟩ := fun o => World.cell?_of_block (a := ⟨tb, o, none⟩) (g tb h.ft h.tm)
  have hsz := Maps.size_put (k := kl) (ho.tidy nmLaw) (.held B)
  rw [hz, hr.1 kl, hb0] at hsz
  have hm : Maps.size (D.put kl (.held B)) = cnt + 1 := by simpa using hsz
  have hnot : ∀ k2 B2, blk k2 = some B2 → B2 ≠ B := fun k2 B2 hb x => by
    obtain ⟨_, _, _, _, _, a5, _⟩ := h.ent k2 B2 hb
    exact hB (x ▸ a5)
  refine ⟨by rw [c, h.c0], by rw [c, h.c1], by rw [c, h.c2], ⟨_, owns_tight ho' hm, hm, hr.put ho.isMap kl hk0 B⟩, fun k2 B2 hB2 => ?_, fun k2 hk2 => ?_, fun k1 k2 B1 h1 h2 => ?_, .inl h.ft, .inl h.fm, h.tm, fun b hF => ?_, ⟨by have := h.few.2.1; omega, h.few.2⟩, fun k2 hk2 => ?_⟩
  · by_cases hk : k2 = kl
    · subst hk
      rw [upd_same] at hB2
      cases hB2
      exact ⟨Ent.zero, upd_same _ _ _, he.block (hg.block B he.lt (by simp [nm])), by show 0 ≤ 2000; omega, ⟨Int.le_refl 0, by have := h.few.2.2; show (0 : Int) < ticks; omega⟩, .inr rfl, nm, nt⟩
    · rw [upd_other _ _ _ hk] at hB2
      obtain ⟨e2, a1, a2, a3, a4, a5, a6, a7⟩ := h.ent k2 B2 hB2
      exact ⟨e2, by rw [upd_other _ _ _ hk]; exact a1, a2.block (g B2 a5 a6), a3, a4, .inl a5, a6, a7⟩
  · by_cases hk : k2 = kl
    · subst hk; rw [upd_same] at hk2; cases hk2
    · rw [upd_other _ _ _ hk] at hk2 ⊢; exact h.non k2 hk2
  · by_cases e1 : k1 = kl
    · by_cases e2 : k2 = kl
      · rw [e1, e2]
      · subst e1; rw [upd_same] at h1; cases h1
        rw [upd_other _ _ _ e2] at h2
        exact absurd rfl (hnot k2 B h2)
    · rw [upd_other _ _ _ e1] at h1
      by_cases e2 : k2 = kl
      · subst e2; rw [upd_same] at h2; cases h2
        exact absurd rfl (hnot k1 B h1)
      · rw [upd_other _ _ _ e2] at h2
        exact h.inj k1 k2 B1 h1 h2
  · rcases hF with hF | rfl
    · exact Nat.lt_of_lt_of_le (h.lt b hF) hg.size
    · exact Nat.lt_of_lt_of_le he.lt hg.size
  · by_cases hk : k2 = kl
    · subst hk; exact hk0
    · rw [upd_other _ _ _ hk] at hk2; exact h.key k2 hk2
end Go.Proofs.Ytkfgapljphhmcaa
