/- Contracts of layer 2: eth's Get and Put, the document's own (six, text, Get, Put, Same). -/
import Derived.Test.YthfncbcnokkmiaaTwos
namespace Go.Proofs.Ythfncbcnokkmiaa
open Go.RowKit
set_option linter.unusedVariables false
set_option maxRecDepth 20000

/-- a head's cells -/
abbrev ethC (a0 a1 a2 a3 a4 a5 b0 b1 b2 b3 b4 b5 t : Value) : Array Value := #[a0, a1, a2, a3, a4, a5, b0, b1, b2, b3, b4, b5, t]
abbrev z8 : Value := .int .u8 0
abbrev ethZ : Array Value := ethC z8 z8 z8 z8 z8 z8 z8 z8 z8 z8 z8 z8 (.int .i64 0)
abbrev ethB (a0 a1 a2 a3 a4 a5 b0 b1 b2 b3 b4 b5 : UInt8) (t : Int) : Array Value := ethC (bv a0) (bv a1) (bv a2) (bv a3) (bv a4) (bv a5) (bv b0) (bv b1) (bv b2) (bv b3) (bv b4) (bv b5) (.int .i64 t)

set_option maxHeartbeats 400000 in
theorem get_short (s : ByteArray) (w : World) (h1 : s.size < 14) :
    Calls Try.prog 23 #[.string s] w fun e w' => e = .returned (.tuple #[.agg ethZ, .string ⟨#[]⟩, .int .i64 2]) ∧ Below w.heap.size w w' := by
  go_enter Try.func23, Try.ntmps23
  go_wp2
  exact bodyPost_ret (v := .tuple #[.agg ethZ, .string ⟨#[]⟩, .int .i64 2]) (by simp [results, Try.results23, go_sem]) rfl ⟨rfl, below1 _ _⟩
set_option maxHeartbeats 400000 in
theorem get_big (s : ByteArray) (w : World) (h1 : 3000 < s.size) (h2 : s.size ≤ 9223372036854775807) :
    Calls Try.prog 23 #[.string s] w fun e w' => e = .returned (.tuple #[.agg ethZ, .string ⟨#[]⟩, .int .i64 5]) ∧ Below w.heap.size w w' := by
  go_enter Try.func23, Try.ntmps23
  go_wp2
  exact bodyPost_ret (v := .tuple #[.agg ethZ, .string ⟨#[]⟩, .int .i64 5]) (by simp [results, Try.results23, go_sem]) rfl ⟨rfl, below1 _ _⟩
set_option maxHeartbeats 1000000 in
theorem get_ok (s : ByteArray) (w : World) (h1 : 14 ≤ s.size) (h2 : s.size ≤ 3000) (a0 a1 a2 a3 a4 a5 b0 b1 b2 b3 b4 b5 c0 c1 : UInt8)
    (ha : s.extract 0 6 = ⟨#[a0, a1, a2, a3, a4, a5]⟩) (hb : s.extract 6 12 = ⟨#[b0, b1, b2, b3, b4, b5]⟩) (hc : s.extract 12 14 = ⟨#[c0, c1]⟩) :
    Calls Try.prog 23 #[.string s] w fun e w' => e = .returned (.tuple #[.agg (ethB a0 a1 a2 a3 a4 a5 b0 b1 b2 b3 b4 b5 ((c0.toNat : Int) * 256 + (c1.toNat : Int))), .string (s.extract 14 s.size), .int .i64 0]) ∧ Below w.heap.size w w' := by
  have k6 : (6 : Int) ≤ (s.size : Int) := by omega
  have k12 : (12 : Int) ≤ (s.size : Int) := by omega
  have k14 : (14 : Int) ≤ (s.size : Int) := by omega
  go_enter Try.func23, Try.ntmps23
  go_upto_region 6 with fail
  go_cut [] (fun wx => wx = ((w.alloc (.cells ethZ 24)).alloc (.cells (ethC (bv a0) (bv a1) (bv a2) (bv a3) (bv a4) (bv a5) z8 z8 z8 z8 z8 z8 (.int .i64 0)) 24)).drew)
  case first =>
    go_region_law (refine step_copy_string rfl (.tmp 15) (.tmp 17) 51 9 rfl 5 Try.underlying51 size5 (w.heap.size + 1) 0 6 6 (by simp [Act.eval, Act.put]) ⟨#[a0, a1, a2, a3, a4, a5]⟩ (by simp [Act.eval, Act.put]) (Nat.le_refl 6) (six_cases (by simp) (by simp) (by simp) (by simp) (by simp) (by simp)) (by intro j hj; simp) ?_; simp only [List.map_cons, List.map_nil, World.setCells])
    all_goals (go_wp2_with fail; go_meet; rfl)
  case rest =>
  obtain rfl := hcut
  go_upto_region 7 with fail
  go_cut [] (fun wx => wx = ((w.alloc (.cells ethZ 24)).alloc (.cells (ethC (bv a0) (bv a1) (bv a2) (bv a3) (bv a4) (bv a5) (bv b0) (bv b1) (bv b2) (bv b3) (bv b4) (bv b5) (.int .i64 0)) 24)).drew.drew)
  case first =>
    go_region_law (refine step_copy_string rfl (.tmp 20) (.tmp 22) 51 9 rfl 5 Try.underlying51 size5 (w.heap.size + 1) 6 6 6 (by simp [Act.eval, Act.put]) ⟨#[b0, b1, b2, b3, b4, b5]⟩ (by simp [Act.eval, Act.put]) (Nat.le_refl 6) (six_cases (by simp) (by simp) (by simp) (by simp) (by simp) (by simp)) (by intro j hj; simp) ?_; simp only [List.map_cons, List.map_nil, World.setCells])
    all_goals (go_wp2_with fail; go_meet; rfl)
  case rest =>
  obtain rfl := hcut
  go_wp2_with fail
  refine (num2 c0 c1 _).mono ?_
  rintro e w' ⟨rfl, rfl⟩
  go_wp2_with fail
  go_region
  all_goals
    go_wp2_with fail
    exact bodyPost_ret (v := .tuple #[.agg (ethB a0 a1 a2 a3 a4 a5 b0 b1 b2 b3 b4 b5 ((c0.toNat : Int) * 256 + (c1.toNat : Int))), .string (s.extract 14 s.size), .int .i64 0]) (by simp [results, Try.results23, go_sem]) rfl ⟨rfl, (below2 _ _ _).drew.drew.drew⟩

theorem take6 (L : List UInt8) (k : Nat) (h : k < L.length) : L.take (k + 1) = L.take k ++ [L.getD k 0] := by
  rw [List.take_succ_eq_append_getElem h]
  simp [List.getD, h]
set_option maxHeartbeats 1000000 in
theorem text_any (a0 a1 a2 a3 a4 a5 : UInt8) (w : World) :
    Calls Try.prog 32 #[.agg #[bv a0, bv a1, bv a2, bv a3, bv a4, bv a5]] w fun e w' => e = .returned (.string ⟨#[a0, a1, a2, a3, a4, a5]⟩) ∧ Below w.heap.size w w' := by
  obtain ⟨i0, hi, hz0, hz1, hz2⟩ := info_parts info5
  go_enter Try.func32, Try.ntmps32
  go_wp2
  obtain ⟨L, hE⟩ : ∃ L : List UInt8, L = [a0, a1, a2, a3, a4, a5] := ⟨_, rfl⟩
  have HL : Hid (L.length = 6) := by rw [hE]; exact rfl
  have HC : Hid (∀ k, k < 6 → (w.alloc (.cells #[bv a0, bv a1, bv a2, bv a3, bv a4, bv a5] 22)).cell? ⟨w.heap.size, k, none⟩ = some (bv (L.getD k 0))) := by
    rw [hE]
    exact six_cases (by simp) (by simp) (by simp) (by simp) (by simp) (by simp)
  have HE : Hid (L = [a0, a1, a2, a3, a4, a5]) := hE
  have HW : Hid (Below w.heap.size w (w.alloc (.cells #[bv a0, bv a1, bv a2, bv a3, bv a4, bv a5] 22)) ∧ (w.alloc (.cells #[bv a0, bv a1, bv a2, bv a3, bv a4, bv a5] 22)).heap.size = w.heap.size + 1) := ⟨below1 _ _, by simp⟩
  clear hE
  generalize w.alloc (.cells #[bv a0, bv a1, bv a2, bv a3, bv a4, bv a5] 22) = W at HC HW ⊢
  go_loopw [3, 4] (fun v i wr => ∃ k : Nat, k ≤ 6 ∧ i = .int .i64 k ∧ OwnB wr (w.heap.size + 1) v (L.take k) ∧ Below (w.heap.size + 1) W wr) (fun _ i _ => 6 - (intOf i).toNat)
  case atStart => exact ⟨0, Nat.zero_le _, rfl, by rw [List.take_zero]; exact OwnB.nil _ _, Below.refl _ _⟩
  case round =>
    obtain ⟨k, hk, rfl, hown, hb⟩ := hrel
    by_cases hlt : k < 6
    · have hcx : wr.cell? ⟨w.heap.size, k, none⟩ = some (bv (L.getD k 0)) := (hb.cell (by show w.heap.size < w.heap.size + 1; omega)).trans (HC.out k hlt)
      have hsz : w.heap.size + 1 ≤ wr.heap.size := by have := hb.size; rw [HW.out.2] at this; exact this
      have HO : Hid (OwnB wr (w.heap.size + 1) u3 (L.take k)) := hown
      have HB : Hid (Below (w.heap.size + 1) W wr) := hb
      have hl : (L.take k).length = k := by rw [List.length_take, HL.out]; omega
      clear hown hb
      generalize hx : L.getD k 0 = x at hcx
      go_wp2_with (first
        | (at_builtin; refine wpList_append_own _ rfl _ _ 51 rfl (w.heap.size + 1) 5 i0 (.int .u8 0) 1 1 Try.underlying51 hi hz0 hz1 hz2 rfl (by decide) _ _ _ rfl (HO.out.alloc _) ⟨wr.heap.size, 0, none⟩ 1 1 [bv x] rfl rfl ?c1 ?c2 ?c3 ?c4 ?c5 ?_)
        | go_in)
      case c1 =>
        intro j u hj
        match j, hj with
        | 0, hj => simp at hj; subst hj; simp [Addr.add]
      case c2 => intro u hu; simp at hu; subst hu; rfl
      case c3 => unfold maxLen; omega
      case c4 => omega
      case c5 => simp; omega
      intro v' w1 hown' hgrow _
      have HO' : Hid (OwnB w1 (w.heap.size + 1) v' (L.take (k + 1))) := by
        show OwnB _ _ _ _
        rw [take6 L k (by rw [HL.out]; exact hlt), hx]
        exact OwnB.snoc hown' (by rw [hl]) (by rw [List.map_take])
      have HB' : Hid (Below (w.heap.size + 1) W w1) := (HB.out.alloc hsz _).grown hgrow (by simp; omega) (fun g hg => (World.ownsRow.lt HO.out g hg).1)
      clear hown' hgrow
      go_wp2
      go_roundw
      case rel => exact ⟨k + 1, by omega, by go_num, HO'.out, HB'.out⟩
      case measure => simp [intOf]; omega
    · have hk6 : k = 6 := by omega
      subst hk6
      have hcv := hown.string
      rw [show L.take 6 = L from List.take_of_length_le (by rw [HL.out]; exact Nat.le_refl _), HE.out] at hcv
      have HB : Hid (Below (w.heap.size + 1) W wr) := hb
      clear hown hb
      go_wp2
      go_ret
      exact ⟨rfl, HW.out.1.trans (HB.out.mono (Nat.le_succ _))⟩
end Go.Proofs.Ythfncbcnokkmiaa
