/- Layer 7: contracts of what works on one entry: lay, end, take, isWhole, count. -/
import Derived.Test.YtkfgapljphhmcaaDfPl
import Derived.Test.YtkfgapljphhmcaaLeafs
import Derived.Test.YtkfgapljphhmcaaFresh
import Derived.Lib.SliceRun
namespace Go.Proofs.Ytkfgapljphhmcaa
open Go.RowKit
set_option linter.unusedVariables false
set_option maxRecDepth 20000
theorem grown_set (w : World) (B o : Nat) (v : Value) : w.grownBy (w.setCell ⟨B, o, none⟩ v) (some B) ∧ (w.setCell ⟨B, o, none⟩ v).heap.size = w.heap.size :=
  ⟨⟨rfl, rfl, rfl, by simp [World.setCell], fun k hk hne => by
    have : ¬ B = k := fun e => hne (by rw [e])
    simp [World.setCell, Array.getElem?_modify, this]⟩, by simp [World.setCell]⟩
theorem grown_refl (w : World) (r : Option Nat) : w.grownBy w r := ⟨rfl, rfl, rfl, Nat.le_refl _, fun _ _ _ => rfl⟩
theorem lay_kept {w : World} {B : Nat} {e : Ent} {p : Nat} {x : UInt8} (h : EntAt w B e) (hb : e.bars p = true) : EntAt w B (e.lay p x) := by
  unfold Ent.lay
  rw [if_pos hb]
  exact h
theorem lay_put {w : World} {B : Nat} {e : Ent} {p : Nat} {x : UInt8} (h : EntAt w B e) (hp : p < 2000) (hb : e.bars p = false) :
    EntAt ((w.setCell ⟨B, p, none⟩ (bv x)).setCell ⟨B, 2000 + p, none⟩ (.bool true)) B (e.lay p x) ∧ w.grownBy ((w.setCell ⟨B, p, none⟩ (bv x)).setCell ⟨B, 2000 + p, none⟩ (.bool true)) (some B) ∧ ((w.setCell ⟨B, p, none⟩ (bv x)).setCell ⟨B, 2000 + p, none⟩ (.bool true)).heap.size = w.heap.size := by
  unfold Ent.lay
  rw [if_neg (by simp [hb])]
  exact ⟨(h.setB p hp x).setT p hp true, (grown_set w B p _).1.trans (grown_set _ B _ _).1, by rw [(grown_set _ B _ _).2, (grown_set _ B _ _).2]⟩
set_option maxHeartbeats 1000000 in
theorem lay_any (w : World) (B : Nat) (e : Ent) (p : Nat) (x : UInt8) (h : EntAt w B e) (hp : p < 2000) (ht : e.tot ≤ 2000) :
    Calls Try.prog 33 #[.pointer (some ⟨B, 0, none⟩), .int .i64 (p : Int), bv x] w fun r w' => r = .returned (.tuple #[]) ∧ EntAt w' B (e.lay p x) ∧ w.grownBy w' (some B) ∧ w'.heap.size = w.heap.size := by
  have c1 : w.cell? ⟨B, 2000 + p, none⟩ = some (.bool (e.th p)) := h.t p hp
  have c2 := h.n
  have f1 := h.f p
  have f2 := h.f (2000 + p)
  have c3 := h.b p hp
  have hlt := h.lt
  have H := (show Hid _ from h)
  obtain ⟨tp, htp⟩ : ∃ tp, tp = e.th p := ⟨_, rfl⟩
  obtain ⟨xb, hxb⟩ : ∃ xb, xb = bv (e.bs p) := ⟨_, rfl⟩
  rw [← htp] at c1
  rw [← hxb] at c3
  have HT := (show Hid _ from htp)
  obtain ⟨n, hn⟩ : ∃ n : Int, n = (e.tot : Int) := ⟨_, rfl⟩
  have HN := (show Hid _ from hn)
  have n0 : 0 ≤ n := by omega
  have n1 : n ≤ 2000 := by omega
  rw [← hn] at c2
  clear h htp hxb hn
  go_enter Try.func33, Try.ntmps33
  cases tp
  · go_wp2
    · exact bodyPost_ret (results_none Try.results33 _ _ _) rfl ⟨rfl, lay_kept H.out (by simp [Ent.bars, ← HT.out]; have := HN.out; omega), grown_refl _ _, rfl⟩
    · exact bodyPost_end (results_none Try.results33 _ _ _) rfl ⟨rfl, lay_put H.out hp (by simp [Ent.bars, ← HT.out]; have := HN.out; omega)⟩
    · exact bodyPost_end (results_none Try.results33 _ _ _) rfl ⟨rfl, lay_put H.out hp (by simp [Ent.bars, ← HT.out]; have := HN.out; omega)⟩
  · go_wp2
    · exact bodyPost_ret (results_none Try.results33 _ _ _) rfl ⟨rfl, lay_kept H.out (by simp [Ent.bars, ← HT.out]), grown_refl _ _, rfl⟩
end Go.Proofs.Ytkfgapljphhmcaa
