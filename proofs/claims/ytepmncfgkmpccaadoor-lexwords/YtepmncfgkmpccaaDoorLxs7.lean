/- Layer 8: signs. -/
import Derived.Test.YtepmncfgkmpccaaDoorLxs3
import Derived.BigQuiet
import Derived.Test.YtepmncfgkmpccaaDoorCalm
namespace Go.Proofs.YtepmncfgkmpccaaDoor
open Go.RowKit
set_option linter.unusedVariables false
set_option linter.unusedSimpArgs false

/-- the signs of one byte, as a text -/
def signsT : ByteArray := ⟨#[40, 41, 59, 58, 44, 47, 91, 93, 33, 45, 46, 61]⟩
theorem signsT_low : ∀ p, p < 12 → (signsT.data.toList.getD p 0).toNat < 128 := by decide
set_option maxRecDepth 100000 in
theorem signsT_has : ∀ c : Fin 256, decide (0 ≤ Lib.indexByte signsT.data.toList (UInt8.ofNat c.val)) = Lx.oneSign (c.val : Int) := by decide
theorem indexByte_none : ∀ (l : List UInt8) (c : UInt8), (∀ b ∈ l, b ≠ c) → Lib.indexByte l c = -1 := by
  intro l
  induction l with
  | nil => intro c h; rfl
  | cons b l ih =>
    intro c h
    have h1 : (b == c) = false := by simpa using h b (by simp)
    have h2 := ih c (fun x hx => h x (by simp [hx]))
    rw [Lib.indexByte, h1, h2]
    rfl
set_option maxHeartbeats 1000000 in
set_option maxRecDepth 100000 in
theorem indexRune_high (r : Int) (w : World) (h0 : 128 ≤ r) (h1 : r ≤ 1114111) :
    Calls Tryd.prog 39 #[.string signsT, .int .i32 r] w fun e w' => e = .returned (.int .i64 (-1)) ∧ Below w.heap.size w w' := by
  obtain ⟨S, hS⟩ : ∃ S, signsT = S := ⟨_, rfl⟩
  have hz : S.size = 12 := by rw [← hS]; rfl
  have hlow : Hid (∀ p, p < 12 → (S.data.toList.getD p 0).toNat < 128) := by rw [← hS]; exact signsT_low
  rw [hS]
  by_cases h5 : r = 65533
  · subst h5
    clear hS
    go_enter Tryd.func39, Tryd.ntmps39
    go_wp2
    go_loopg [] 12 (fun gk wx => ∃ pos : Nat, wx.heap[w.heap.size]? = some (.stringIter S pos) ∧ Below w.heap.size w wx ∧ 12 = pos + gk)
    case atStart => exact ⟨0, World.iter_heap w S 0, below1 w _, by omega⟩
    case round =>
      obtain ⟨pos, hit, hbw, hfu⟩ := hrel
      by_cases hlt : pos < S.size
      · obtain ⟨g', rfl⟩ : ∃ g', gk = g' + 1 := ⟨gk - 1, by omega⟩
        have hnx : ∀ ty, (Instr.next (.pointer (some ⟨w.heap.size, 0, none⟩)) true ty).run Tryd.prog wr = _ := fun ty => Lib.run_next_any_at wr w.heap.size S pos ty hit hlt
        have hx128 := hlow.out pos (by omega)
        rw [Lx.low_one S pos hlt hx128] at hnx
        obtain ⟨x, hx⟩ : ∃ x, S.data.toList.getD pos 0 = x := ⟨_, rfl⟩
        rw [hx] at hnx hx128
        rw [show (((x.toNat, 1) : Nat × Nat).1) = x.toNat from rfl, show (((x.toNat, 1) : Nat × Nat).2) = 1 from rfl] at hnx
        have hit2 := Lib.iterAt_heap wr w.heap.size S pos (pos + 1) hit
        have hbw2 := Lib.below_iterAt hbw (k := w.heap.size) (Nat.le_refl _) S (pos + 1)
        obtain ⟨W, hWd⟩ : ∃ W, wr.iterAt w.heap.size S (pos + 1) = W := ⟨_, rfl⟩
        rw [hWd] at hnx hit2 hbw2
        have hne : ¬ ((x.toNat : Int) = 65533) := by omega
        clear hit hbw hWd hx
        go_wp2
        go_roundg g'
        case measure => omega
        case rel => exact ⟨pos + 1, hit2, hbw2, by omega⟩
      · have hnx : ∀ ty, (Instr.next (.pointer (some ⟨w.heap.size, 0, none⟩)) true ty).run Tryd.prog wr = _ := fun ty => Lib.run_next_end_at wr w.heap.size S pos ty hit hlt
        go_wp2
        go_ret
        exact ⟨rfl, hbw⟩
  · have cV := Tryd.utf8_ValidRune r w
    by_cases hv : Lib.validRune r = true
    · rw [hv] at cV
      have hvu : Utf8.valid r = true := by
        rw [← hv]
        unfold Utf8.valid Lib.validRune
        by_cases q : (0 ≤ r ∧ r < 0xD800) ∨ (0xDFFF < r ∧ r ≤ 0x10FFFF)
        · rw [decide_eq_true q]; rcases q with q | q <;> simp <;> omega
        · rw [decide_eq_false q]; simp; omega
      obtain ⟨e1, e2, e3⟩ := encode_facts r hvu h0
      obtain ⟨E, hE⟩ : ∃ E, Utf8.encode r = E := ⟨_, rfl⟩
      rw [hE] at e1 e2 e3
      obtain ⟨la, hla⟩ : ∃ la, E.size = la + 1 := ⟨E.size - 1, by omega⟩
      have hlt : la < E.size := by omega
      have hy : 128 ≤ (E[la]'hlt).toNat := by
        have := e3 (by omega)
        have e : E.size - 1 = la := by omega
        simpa [e] using this
      obtain ⟨y, hyd⟩ : ∃ y, E[la]'hlt = y := ⟨_, rfl⟩
      rw [hyd] at hy
      have hlaS : la < S.size := by omega
      have hxl : (S[la]'hlaS).toNat < 128 := by
        rw [← getD_at S la hlaS]
        exact hlow.out la (by omega)
      obtain ⟨x, hxd⟩ : ∃ x, S[la]'hlaS = x := ⟨_, rfl⟩
      rw [hxd] at hxl
      have hne : ((x.toNat : Int) != (y.toNat : Int)) = true := by simp; omega
      have ht2 := (extract_from S (la + 1) (by omega)).2
      rw [hz] at ht2
      obtain ⟨t, ht⟩ : ∃ t, S.extract (la + 1) 12 = t := ⟨_, rfl⟩
      rw [ht] at ht2
      have hnone : Lib.indexByte t.data.toList y = -1 := by
        apply indexByte_none
        intro b hb
        rw [ht2] at hb
        have : b.toNat < 128 := by
          obtain ⟨q, hq, rfl⟩ := List.mem_iff_getElem.1 hb
          rw [List.length_drop] at hq
          have hl : S.data.toList.length = S.size := by simp
          have := hlow.out (la + 1 + q) (by omega)
          rw [List.getElem_drop]
          rwa [List.getD, List.getElem?_eq_getElem (by omega)] at this
        intro e
        rw [e] at this
        omega
      have cI := fun u => Tryd.strings_IndexByte t (y.toNat : Int) u
      rw [show ((y.toNat : Int).toNat.toUInt8) = y from by simp] at cI
      rw [hnone] at cI
      have hla1 : (la : Int) + 1 ≤ 4 := by omega
      have hzi : (S.size : Int) = 12 := by omega
      have hlai : (la : Int) < (S.size : Int) := by omega
      have h128 : ¬ (r < 128) := by omega
      clear hS hlow hv hvu e1 e2 e3 ht2 hnone hxl hy h0 h1
      go_enter Tryd.func39, Tryd.ntmps39
      go_wp2_with (go_at_call 45; go_must (refine cV.mono ?_; rintro e W' ⟨rfl, rfl⟩))
      go_step3
      go_wp2
      refine wp_loop_rounds 2 ?_
      rw [rounds_succ]
      go_wp2
      go_step3
      go_wp2
      refine wp_region_calm (by kernel_rfl) (by kernel_rfl) (fun hne => ?_)
      repeat (go_big_quiet_step (fail))
      refine wpQuiet_nil ?_
      rintro _ ⟨x6, rfl⟩
      have hb6 := x6.bel
      generalize x6.val = w6 at *
      clear hne
      go_wp2
      refine wp_region_calm (by kernel_rfl) (by kernel_rfl) (fun hne => ?_)
      repeat (go_big_quiet_step (first | (go_at_call 44; exact calm_of_same ((cI _).mono fun _ _ h => ⟨h.1, h.2.symm⟩))))
      refine wpQuiet_nil ?_
      rintro _ ⟨x7, rfl⟩
      have hb7 := x7.bel
      generalize x7.val = w7 at *
      clear hne
      go_wp2
      rw [Exit.noGoto_ret]
      go_wp2
      rw [Exit.noGoto_ret]
      go_wp2
      go_ret
      exact ⟨rfl, hb6.trans (hb7.mono hb6.size)⟩
    · have hv' : Lib.validRune r = false := by simpa using hv
      rw [hv'] at cV
      have h5' : ¬ ((r : Int) = 65533) := h5
      have h128 : ¬ (r < 128) := by omega
      clear hS hlow hv
      go_enter Tryd.func39, Tryd.ntmps39
      go_wp2_with (go_at_call 45; go_must (refine cV.mono ?_; rintro e W' ⟨rfl, rfl⟩))
      go_ret
      exact ⟨rfl, Below.refl _ _⟩
end Go.Proofs.YtepmncfgkmpccaaDoor
