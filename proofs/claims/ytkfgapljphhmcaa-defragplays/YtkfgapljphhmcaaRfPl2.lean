/- Layer 7's own answer, no program: what a part does to a list of entries. -/
import Derived.Test.YtkfgapljphhmcaaRfs6
import Derived.Great.BuildSlice
namespace Go.Proofs.Ytkfgapljphhmcaa
open Go.RowKit Go.Maps
set_option linter.unusedVariables false
set_option maxRecDepth 20000
def RE.fresh (i : Ip) (now : Int) : RE := ⟨i.src, i.dst, i.proto, i.id, [], -1, now⟩
/-- does a place have room? -/
def roomP (all : Int) (ps : List (Nat × UInt8)) (p : Nat) : Bool := !hasAt ps (p : Int) && (decide (all < 0) || decide ((p : Int) < all))
def layP (all : Int) (off : Nat) (s : ByteArray) (ps : List (Nat × UInt8)) : Nat → List (Nat × UInt8)
  | 0 => ps
  | k + 1 => if roomP all (layP all off s ps k) (off + k) then layP all off s ps k ++ [(off + k, s.data.toList.getD k 0)] else layP all off s ps k
def keepP (all : Int) (p : Nat × UInt8) : Bool := decide (all < 0) || decide ((p.1 : Int) < all)
def RE.endR (e : RE) (i : Ip) (n : Nat) : RE := if i.more = false ∧ e.all < 0 then { e with all := i.off + n } else e
def RE.taken (e : RE) (i : Ip) (s : ByteArray) : RE := { e.endR i s.size with ps := (layP (e.endR i s.size).all i.off.toNat s (e.endR i s.size).ps s.size).filter (keepP (e.endR i s.size).all) }
def RE.isAll (e : RE) : Bool := decide (0 ≤ e.all) && decide ((e.ps.length : Int) = e.all)
def RE.text (e : RE) : ByteArray := ⟨(fillL e.all.toNat e.ps).toArray⟩
def idxR (R : List RE) (i : Ip) : Option Nat := R.findIdx? (fun e => e.named i)
/-- what Add answers -/
structure AnsR where
  R : List RE
  text : ByteArray
  done : Bool
  err : Int
def putR (R : List RE) (k : Nat) (e : RE) : AnsR := if e.isAll then ⟨R.eraseIdx k, e.text, true, 0⟩ else ⟨R.set k e, ⟨#[]⟩, false, 0⟩
def addR (most now : Int) (R : List RE) (i : Ip) (s : ByteArray) : AnsR :=
  if partB i = false then ⟨R, s, true, 0⟩
  else if brokenB i s.size then ⟨R, ⟨#[]⟩, false, 3⟩
  else if 2000 - i.off < (s.size : Int) then ⟨(match idxR R i with | some k => R.eraseIdx k | none => R), ⟨#[]⟩, false, 5⟩
  else match idxR R i with
    | some k => putR R k ((R[k]?.getD (RE.fresh i now)).taken i s)
    | none => if most ≤ (R.length : Int) then ⟨R, ⟨#[]⟩, false, 10⟩ else putR (R ++ [RE.fresh i now]) R.length ((RE.fresh i now).taken i s)
/-- an entry that may be -/
structure GoodE (e : RE) : Prop where
  nd : (e.ps.map Prod.fst).Nodup
  lt : ∀ p ∈ e.ps, p.1 < 2000 ∧ (0 ≤ e.all → (p.1 : Int) < e.all)
  all : e.all < 0 ∨ (1 ≤ e.all ∧ e.all ≤ 2000)
theorem few_nat : ∀ (n : Nat) (l : List Nat), l.Nodup → (∀ x ∈ l, x < n) → l.length ≤ n
  | 0, l, _, h => by
    cases l with
    | nil => exact Nat.le_refl _
    | cons x l => exact absurd (h x (by simp)) (Nat.not_lt_zero _)
  | n + 1, l, hn, h => by
    have := few_nat n (l.erase n) (hn.erase n) (fun x hx => by
      have h1 := (hn.mem_erase_iff).1 hx
      have h2 := h x h1.2
      have h3 := h1.1
      omega)
    rw [List.length_erase] at this
    split at this <;> omega
theorem few_of {ps : List (Nat × UInt8)} {n : Nat} (h : (ps.map Prod.fst).Nodup) (hl : ∀ p ∈ ps, p.1 < n) : ps.length ≤ n := by
  have := few_nat n _ h (fun x hx => by
    obtain ⟨p, hp, rfl⟩ := List.mem_map.1 hx
    exact hl p hp)
  simpa using this
theorem GoodE.fresh (i : Ip) (now : Int) : GoodE (RE.fresh i now) := ⟨List.nodup_nil, fun p hp => absurd hp List.not_mem_nil, .inl (by show (-1 : Int) < 0; omega)⟩
theorem hasAt_iff (ps : List (Nat × UInt8)) (p : Nat) : hasAt ps (p : Int) = true ↔ p ∈ ps.map Prod.fst := by
  unfold hasAt
  rw [List.any_eq_true, List.mem_map]
  constructor
  · rintro ⟨x, hx, h⟩; exact ⟨x, hx, by have := of_decide_eq_true h; omega⟩
  · rintro ⟨x, hx, h⟩; exact ⟨x, hx, by simp [h]⟩
theorem layP_good {all : Int} {off : Nat} {s : ByteArray} {ps : List (Nat × UInt8)} (h : (ps.map Prod.fst).Nodup) (hl : ∀ p ∈ ps, p.1 < 2000) (k : Nat) (hk : off + k ≤ 2000) : ((layP all off s ps k).map Prod.fst).Nodup ∧ ∀ p ∈ layP all off s ps k, p.1 < 2000 := by
  induction k with
  | zero => exact ⟨h, hl⟩
  | succ k ih =>
    obtain ⟨h1, h2⟩ := ih (by omega)
    rw [layP]
    split
    · rename_i hr
      unfold roomP at hr
      rw [Bool.and_eq_true, Bool.not_eq_true'] at hr
      have hn : off + k ∉ (layP all off s ps k).map Prod.fst := fun x => by rw [(hasAt_iff _ _).2 x] at hr; cases hr.1
      refine ⟨?_, fun p hp => ?_⟩
      · rw [List.map_append, List.nodup_append]
        refine ⟨h1, by simp, fun a ha b hb => ?_⟩
        simp at hb
        subst hb
        intro e
        exact hn (e ▸ ha)
      · rcases List.mem_append.1 hp with hp | hp
        · exact h2 p hp
        · rw [List.mem_singleton.1 hp]; show off + k < 2000; omega
    · exact ⟨h1, h2⟩
theorem endR_ps (e : RE) (i : Ip) (n : Nat) : (e.endR i n).ps = e.ps := by unfold RE.endR; split <;> rfl
theorem GoodE.taken {e : RE} (h : GoodE e) {i : Ip} {s : ByteArray} (h0 : 0 ≤ i.off) (h1 : 1 ≤ s.size) (h2 : i.off + (s.size : Int) ≤ 2000) : GoodE (e.taken i s) := by
  have hg := layP_good (all := (e.endR i s.size).all) (off := i.off.toNat) (s := s) (ps := (e.endR i s.size).ps) (by rw [endR_ps]; exact h.nd) (by rw [endR_ps]; exact fun p hp => (h.lt p hp).1) s.size (by omega)
  refine ⟨?_, fun p hp => ?_, ?_⟩
  · unfold RE.taken
    exact (List.filter_sublist.map _).nodup hg.1
  · unfold RE.taken at hp ⊢
    simp only [List.mem_filter] at hp
    refine ⟨hg.2 p hp.1, fun ha => ?_⟩
    have hk := hp.2
    unfold keepP at hk
    simp at hk
    show (p.1 : Int) < (e.endR i s.size).all
    have ha' : 0 ≤ (e.endR i s.size).all := ha
    omega
  · show (e.endR i s.size).all < 0 ∨ _
    unfold RE.taken RE.endR
    split
    · exact .inr ⟨by show 1 ≤ i.off + (s.size : Int); omega, by show i.off + (s.size : Int) ≤ 2000; omega⟩
    · exact h.all
/-- literals of one element -/
theorem lit_part (w : World) (n : Int) (b : UInt8) : (Instr.buildSlice 60 1 #[(0, .agg #[.int .i64 n, bv b])]).run Try.prog w = .ok (.slice (some ⟨w.heap.size, 0, none⟩) 1 1) (w.alloc (.cells #[.int .i64 n, bv b] 73)) := by
  obtain ⟨i0, hi, hz0, hz1, hz2⟩ := info_parts infoP
  refine run_buildSlice w _ _ 1 _ _ i0 _ Try.underlying60 hi hz0 (by rw [hz1]; decide) (by rw [hz1]; decide) ?_
  rw [hz1]
  kernel_rfl
theorem lit_entry (w : World) (c0 c1 c2 c3 c4 c5 c6 : Value) : (Instr.buildSlice 35 1 #[(0, .agg #[c0, c1, c2, c3, c4, c5, c6])]).run Try.prog w = .ok (.slice (some ⟨w.heap.size, 0, none⟩) 1 1) (w.alloc (.cells #[c0, c1, c2, c3, c4, c5, c6] 62)) := by
  obtain ⟨i0, hi, hz0, hz1, hz2⟩ := info_parts infoE
  refine run_buildSlice w _ _ 1 _ _ i0 _ Try.underlying35 hi hz0 (by rw [hz1]; decide) (by rw [hz1]; decide) ?_
  rw [hz1]
  kernel_rfl
end Go.Proofs.Ytkfgapljphhmcaa
