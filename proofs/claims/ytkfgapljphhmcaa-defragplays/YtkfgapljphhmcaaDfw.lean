/- Layer 7: the statements' awake and Place. -/
import Derived.Test.YtkfgapljphhmcaaDfPl2
namespace Go.Proofs.Ytkfgapljphhmcaa
open Go.RowKit Go.Maps
set_option linter.unusedVariables false
set_option maxRecDepth 20000
/-- a head with nothing but a number, a place, and whether more comes -/
def ipN (id : Int) (off : Int) (more : Bool) : Ip := { tos := 0, id := id, more := more, keep := false, off := off, ttl := 0, proto := 0, src := 0, dst := 0, opts := ⟨#[]⟩ }
theorem ipN_key (id : Int) (off : Int) (more : Bool) (h : -9223372036854775808 ≤ id ∧ id ≤ 9223372036854775807) : keyOf Try.prog 54 (.agg (nmV (ipN id off more))) = some (nmL (ipN id off more)) := nm_key _ ⟨by show (-9223372036854775808 : Int) ≤ 0; omega, by show (0 : Int) ≤ 9223372036854775807; omega⟩ h
theorem ipN_nm (id off off' : Int) (more more' : Bool) : nmL (ipN id off more) = nmL (ipN id off' more') := rfl
def sWorld : ByteArray := ⟨#[119, 111, 114, 108, 100]⟩
def sHello : ByteArray := ⟨#[104, 101, 108, 108, 111, 32, 119, 111]⟩
def sBoth : ByteArray := ⟨#[104, 101, 108, 108, 111, 32, 119, 111, 119, 111, 114, 108, 100]⟩
theorem awake_one : (Tbl.none.add 2 (ipN 0 8 false) sWorld) = ⟨Tbl.none.put (nmL (ipN 0 0 true)) (Ent.zero.take 8 false sWorld), ⟨#[]⟩, false, 0⟩ :=
  Tbl.add_open _ _ _ _ rfl (fault_ok (by decide) (by decide) (fun h => by cases h) (by decide) (.inr (by decide))) (by decide)
theorem awake_two : ((Tbl.none.put (nmL (ipN 0 0 true)) (Ent.zero.take 8 false sWorld)).add 2 (ipN 0 0 true) sHello) = ⟨Tbl.none.del (nmL (ipN 0 0 true)), sBoth, true, 0⟩ := by
  have hS : (Tbl.none.put (nmL (ipN 0 0 true)) (Ent.zero.take 8 false sWorld)).S (nmL (ipN 0 0 true)) = some (Ent.zero.take 8 false sWorld) := Tbl.put_S _ _ _
  have hw : (Tbl.none.put (nmL (ipN 0 0 true)) (Ent.zero.take 8 false sWorld)).with (nmL (ipN 0 0 true)) (ipN 0 0 true) sHello = (Ent.zero.take 8 false sWorld).take 0 true sHello := by
    unfold Tbl.with; rw [hS]; rfl
  rw [Tbl.add_whole _ _ _ _ rfl (fault_ok (by decide) (by decide) (fun _ => by decide) (by decide) (.inl (by rw [hS]; rfl))) (by rw [hw]; decide), hw, Tbl.put_del]
  congr 1
set_option maxHeartbeats 1000000 in
theorem awake_any (w : World) : Calls Try.prog 10 #[] w fun r w' => r = .returned (.bool true) ∧ Below w.heap.size w w' := by
  have hn := new_any 2 5 w
  have h1 := fun (w : World) F tb mb blk (h : TabT w F tb mb 2 5 blk Tbl.none) => add_any h (ipN 0 8 false) (ipN_key 0 8 false (by omega)) sWorld (by decide) (by decide)
  have h2 := fun (w : World) F tb mb blk (h : TabT w F tb mb 2 5 blk (Tbl.none.put (nmL (ipN 0 0 true)) (Ent.zero.take 8 false sWorld))) => add_any h (ipN 0 0 true) (ipN_key 0 0 true (by omega)) sHello (by decide) (by decide)
  simp only [awake_one] at h1
  simp only [awake_two] at h2
  have H1 := (show Hid _ from h1)
  have H2 := (show Hid _ from h2)
  clear h1 h2
  go_enter Try.func10, Try.ntmps10
  go_wp2_with fail
  refine hn.mono ?_
  rintro r w1 ⟨rfl, hb1, t1⟩
  have HB := (show Hid _ from hb1)
  have HT := (show Hid _ from t1)
  clear hn hb1 t1
  go_wp2_with fail
  refine (H1.out w1 _ _ _ _ HT.out).mono ?_
  rintro r w2 ⟨rfl, F2, blk2, k2, t2⟩
  have HF : Hid (∀ b, (b = w.heap.size ∨ b = w.heap.size + 1) → w.heap.size ≤ b) := fun b hb => by omega
  have B2 := k2.below HB.out.size HF.out
  have HB2 := (show Hid _ from HB.out.trans B2.1)
  have HF2 := (show Hid _ from B2.2)
  have HT2 := (show Hid _ from t2)
  clear k2 t2 HT HF HB B2
  go_wp2_with fail
  refine (H2.out w2 _ _ _ _ HT2.out).mono ?_
  rintro r w3 ⟨rfl, F3, blk3, k3, t3⟩
  have B3 := k3.below HB2.out.size HF2.out
  have HB3 := (show Hid _ from HB2.out.trans B3.1)
  have hl := len_any t3
  have e0 : (Tbl.none.del (nmL (ipN 0 0 true))).n = 0 := rfl
  rw [e0] at hl
  clear k3 t3 HT2 HF2 HB2 B3 H1 H2
  unfold sBoth
  go_wp2_with fail
  refine hl.mono ?_
  rintro r w4 ⟨rfl, rfl⟩
  clear hl
  go_wp2
  go_ret
  exact ⟨rfl, HB3.out⟩
/-- the table of a walk that began in w0 -/
def Held (w0 w : World) (tb : Nat) (most ticks : Int) (T : Tbl) : Prop := ∃ F mb blk, TabT w F tb mb most ticks blk T ∧ (∀ b, F b → w0.heap.size ≤ b) ∧ Below w0.heap.size w0 w
theorem Held.bel {w0 w : World} {tb : Nat} {most ticks : Int} {T : Tbl} (h : Held w0 w tb most ticks T) : Below w0.heap.size w0 w := by obtain ⟨_, _, _, _, _, h⟩ := h; exact h
theorem Held.card {w0 w : World} {tb : Nat} {most ticks : Int} {T : Tbl} (h : Held w0 w tb most ticks T) : Card T.S T.n := by obtain ⟨_, _, _, h, _⟩ := h; exact h.card
theorem Held.below {w0 w w' : World} {tb : Nat} {most ticks : Int} {T : Tbl} (h : Held w0 w tb most ticks T) (hb : Below w.heap.size w w') : Held w0 w' tb most ticks T := by
  obtain ⟨F, mb, blk, h1, h2, h3⟩ := h
  exact ⟨F, mb, blk, h1.below hb, h2, h3.trans (hb.mono h3.size)⟩
theorem held_of {w0 w w' : World} {F : Nat → Prop} {tb mb : Nat} {most ticks : Int} {T : Tbl} (hF : ∀ b, F b → w0.heap.size ≤ b) (hb : Below w0.heap.size w0 w) (h : TabK F w tb mb most ticks T w') : Held w0 w' tb most ticks T := by
  obtain ⟨F', blk', k, t⟩ := h
  have := k.below hb.size hF
  exact ⟨F', mb, blk', t, this.2, hb.trans this.1⟩
theorem held_new {w0 w : World} (hb : Below w0.heap.size w0 w) (most ticks : Int) : Calls Try.prog 8 #[.int .i64 most, .int .i64 ticks] w fun r w' => r = .returned (.pointer (some ⟨w.heap.size + 1, 0, none⟩)) ∧ Held w0 w' (w.heap.size + 1) (max 1 (min most 32)) (max 1 (min ticks 100000)) Tbl.none := by
  refine (new_any most ticks w).mono ?_
  rintro r w' ⟨rfl, hb', t⟩
  have := hb.size
  exact ⟨rfl, _, _, _, t, fun b hb => by omega, hb.trans (hb'.mono this)⟩
theorem held_add {w0 w : World} {tb : Nat} {most ticks : Int} {T : Tbl} (h : Held w0 w tb most ticks T) (i : Ip) (hk : i.ok) (s : ByteArray) (hs : s.size ≤ 1000000000) (hio : i.off ≤ 9223372036854775807) (a : Ans) (ha : T.add most i s = a) :
    Calls Try.prog 15 #[.pointer (some ⟨tb, 0, none⟩), .agg (ipV i), .string s] w fun r w' => r = .returned (.tuple #[.string a.text, .bool a.done, .int .i64 a.err]) ∧ Held w0 w' tb most ticks a.T := by
  obtain ⟨F, mb, blk, h1, h2, h3⟩ := h
  have := add_any h1 i (nm_key i hk.1 hk.2) s hs hio
  rw [ha] at this
  refine this.mono ?_
  rintro r w' ⟨rfl, k⟩
  exact ⟨rfl, held_of h2 h3 k⟩
theorem held_len {w0 w : World} {tb : Nat} {most ticks : Int} {T : Tbl} (h : Held w0 w tb most ticks T) : Calls Try.prog 17 #[.pointer (some ⟨tb, 0, none⟩)] w fun r w' => r = .returned (.int .i64 (T.n : Int)) ∧ w = w' := by
  obtain ⟨F, mb, blk, h1, h2, h3⟩ := h
  exact len_any h1
theorem held_awake {w0 w : World} {tb : Nat} {most ticks : Int} {T : Tbl} (h : Held w0 w tb most ticks T) : Calls Try.prog 10 #[] w fun r w' => r = .returned (.bool true) ∧ Below w0.heap.size w0 w' := by
  refine (awake_any w).mono ?_
  rintro r w' ⟨rfl, hb⟩
  exact ⟨rfl, h.bel.trans (hb.mono h.bel.size)⟩
theorem held_tick {w0 w : World} {tb : Nat} {most ticks : Int} {T : Tbl} (h : Held w0 w tb most ticks T) (n0 : Int) : Calls Try.prog 12 #[.pointer (some ⟨tb, 0, none⟩), .int .i64 n0] w fun r w' => ∃ T' : Tbl, T'.S = (fun kl => (T.S kl).bind (Ent.aged (max 0 (min n0 100000)) ticks)) ∧ T'.n ≤ T.n ∧ r = .returned (.int .i64 ((T.n - T'.n : Nat) : Int)) ∧ Held w0 w' tb most ticks T' := by
  obtain ⟨F, mb, blk, h1, h2, h3⟩ := h
  refine (tick_any h1 n0).mono ?_
  rintro r w' ⟨T', a1, a2, rfl, k⟩
  exact ⟨T', a1, a2, rfl, held_of h2 h3 k⟩
theorem held_flush {w0 w : World} {tb : Nat} {most ticks : Int} {T : Tbl} (h : Held w0 w tb most ticks T) : Calls Try.prog 14 #[.pointer (some ⟨tb, 0, none⟩)] w fun r w' => r = .returned (.tuple #[]) ∧ Held w0 w' tb most ticks Tbl.none := by
  obtain ⟨F, mb, blk, h1, h2, h3⟩ := h
  refine (flush_any h1).mono ?_
  rintro r w' ⟨rfl, k⟩
  exact ⟨rfl, held_of h2 h3 k⟩
theorem held_bytes {w0 w : World} {tb : Nat} {most ticks : Int} {T : Tbl} (h : Held w0 w tb most ticks T) : Calls Try.prog 18 #[.pointer (some ⟨tb, 0, none⟩)] w fun r w' => ∃ n : Nat, r = .returned (.int .i64 (n : Int)) ∧ Sums T.S n ∧ Held w0 w' tb most ticks T := by
  have h' := h
  obtain ⟨F, mb, blk, h1, h2, h3⟩ := h
  refine (bytes_any h1).mono ?_
  rintro r w' ⟨n, rfl, hn, hb⟩
  exact ⟨n, rfl, hn, h'.below hb⟩
end Go.Proofs.Ytkfgapljphhmcaa
