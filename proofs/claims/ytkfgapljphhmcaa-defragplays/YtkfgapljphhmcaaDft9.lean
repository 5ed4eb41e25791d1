/- Layer 7: contract of Bytes. -/
import Derived.Test.YtkfgapljphhmcaaDft8
namespace Go.Proofs.Ytkfgapljphhmcaa
open Go.RowKit Go.Maps
set_option linter.unusedVariables false
set_option maxRecDepth 20000
/-- an element of the map, by its block -/
def mkP : Option Nat → Value := fun o => .pointer (o.map fun B => ⟨B, 0, none⟩)
theorem mkP_inv (v : Value) (y : DataW Nat × List MemPlace) (h : ptrR v = some y) : ∃ c, v = mkP c := by
  rcases ptrR_inv (d := y.1) (ps := y.2) h with ⟨rfl, _⟩ | ⟨B, rfl, _⟩
  · exact ⟨none, rfl⟩
  · exact ⟨some B, rfl⟩
theorem read_at {D : DataW Nat} {blk : Lit → Option Nat} (hr : Reads D blk) {kl : Lit} {c : Option Nat} {y : DataW Nat × List MemPlace} (hv : ptrR (mkP c) = some y) (hat : ∀ zd, D.atKey kl zd = y.1) : ∃ B, c = some B ∧ blk kl = some B := by
  cases hb : blk kl with
  | none =>
    have h1 := hat .nil
    have h2 := hat (.held 0)
    rw [hr.2 kl, hb] at h1 h2
    rw [← h1] at h2
    cases h2
  | some B =>
    have h1 := hat .nil
    rw [hr.2 kl, hb] at h1
    cases c with
    | none => rw [show ptrR (mkP none) = some (.nil, []) from rfl] at hv; cases hv; cases h1
    | some B' => rw [show ptrR (mkP (some B')) = some (.held B', []) from ptrR_some B'] at hv; cases hv; cases h1; exact ⟨B, rfl, rfl⟩
/-- all bytes of the entries with those names -/
def bytesOf (S : Lit → Option Ent) (ks : List Lit) : Nat := (ks.map fun kl => ((S kl).map Ent.count).getD 0).sum
theorem bytesOf_cons (S : Lit → Option Ent) (k : Lit) (ks : List Lit) : bytesOf S (k :: ks) = ((S k).map Ent.count).getD 0 + bytesOf S ks := rfl
/-- as many bytes as there are -/
def Sums (S : Lit → Option Ent) (n : Nat) : Prop := ∃ ks : List Lit, ks.Nodup ∧ (∀ kl, kl ∈ ks ↔ (S kl).isSome = true) ∧ bytesOf S ks = n
theorem bytesOf_perm (S : Lit → Option Ent) {a b : List Lit} (h : a.Perm b) : bytesOf S a = bytesOf S b := (h.map _).sum_nat
theorem Sums.one {S : Lit → Option Ent} {n m : Nat} (h : Sums S n) (k : Sums S m) : n = m := by
  obtain ⟨a, a1, a2, rfl⟩ := h
  obtain ⟨b, b1, b2, rfl⟩ := k
  exact bytesOf_perm S ((List.perm_ext_iff_of_nodup a1 b1).2 (fun x => by rw [a2, b2]))
theorem count_le (e : Ent) : e.count ≤ 2000 := by
  unfold Ent.count
  exact Nat.le_trans (List.length_filter_le _ _) (by simp)
theorem lit_cell {P : Program} {d : Nat} {t : TypeId} {q : IntKind} (ht : P.underlying t = some (.int q)) {v : Value} {ls : List Lit} (h : P.keyLits (d + 1) t [v] = some ls) : ∃ n, v = .int q n ∧ (Lit.int q n).wf = true := by
  unfold Program.keyLits at h
  rw [ht] at h
  cases v <;> simp at h
  obtain ⟨⟨rfl, h2⟩, _⟩ := h
  exact ⟨_, rfl, h2⟩
theorem u32_wf {n : Int} (h : (Lit.int .u32 n).wf = true) : ∃ x : UInt32, n = (x.toNat : Int) := by
  simp [Lit.wf, IntKind.min, IntKind.max, IntKind.bits, IntKind.signed] at h
  refine ⟨UInt32.ofNat n.toNat, ?_⟩
  have : n.toNat < 4294967296 := by omega
  simp [Nat.mod_eq_of_lt this]
  omega
theorem nm_inv (key : Value) (kl : Lit) (h : keyOf Try.prog 54 key = some kl) : ∃ i : Ip, key = .agg (nmV i) := by
  have hk : Try.prog.keyType 54 = true := by kernel_rfl
  have hc : Try.prog.cellsOf 54 = 4 := by kernel_rfl
  have hz : Try.prog.types.size + 1 = (Try.prog.types.size - 1) + 2 := by have : 1 ≤ Try.prog.types.size := of_decide_eq_true (by kernel_rfl); omega
  have c1 : Try.prog.cellsOf 27 = 1 := by kernel_rfl
  have c2 : Try.prog.cellsOf 3 = 1 := by kernel_rfl
  unfold keyOf at h
  rw [Try.underlying54] at h
  simp only [hk, hz] at h
  cases key with
  | agg cs =>
    simp only [Value.formed, Try.underlying54, hc] at h
    by_cases h4 : cs.size = 4
    · obtain ⟨l⟩ := cs
      match l, h4 with
      | [a, b, c, d], _ =>
        have hl : ∀ n, Try.prog.keyLits (n + 2) 54 [a, b, c, d] = (do let x ← Try.prog.keyLits (n + 1) 27 [a]; let y ← Try.prog.keyLits (n + 1) 27 [b]; let u ← Try.prog.keyLits (n + 1) 3 [c]; let v ← Try.prog.keyLits (n + 1) 3 [d]; pure (x ++ (y ++ (u ++ v)))) := fun n => by
          conv => lhs; unfold Program.keyLits
          simp only [Try.underlying54, hc]
          cases e1 : Try.prog.keyLits (n + 1) 27 [a] <;> cases e2 : Try.prog.keyLits (n + 1) 27 [b] <;> cases e3 : Try.prog.keyLits (n + 1) 3 [c] <;> cases e4 : Try.prog.keyLits (n + 1) 3 [d] <;> simp [c1, c2, e1, e2, e3, e4]
        rw [show (Value.agg ⟨[a, b, c, d]⟩).cells.toList = [a, b, c, d] from rfl, hl] at h
        cases e1 : Try.prog.keyLits (Try.prog.types.size - 1 + 1) 27 [a] with
        | none => rw [e1] at h; simp at h
        | some x =>
          cases e2 : Try.prog.keyLits (Try.prog.types.size - 1 + 1) 27 [b] with
          | none => rw [e1, e2] at h; simp at h
          | some y =>
            cases e3 : Try.prog.keyLits (Try.prog.types.size - 1 + 1) 3 [c] with
            | none => rw [e1, e2, e3] at h; simp at h
            | some u =>
              cases e4 : Try.prog.keyLits (Try.prog.types.size - 1 + 1) 3 [d] with
              | none => rw [e1, e2, e3, e4] at h; simp at h
              | some v =>
                obtain ⟨n1, rfl, w1⟩ := lit_cell Try.underlying27 e1
                obtain ⟨n2, rfl, w2⟩ := lit_cell Try.underlying27 e2
                obtain ⟨n3, rfl, _⟩ := lit_cell Try.underlying3 e3
                obtain ⟨n4, rfl, _⟩ := lit_cell Try.underlying3 e4
                obtain ⟨x1, rfl⟩ := u32_wf w1
                obtain ⟨x2, rfl⟩ := u32_wf w2
                exact ⟨{ tos := 0, id := n4, more := false, keep := false, off := 0, ttl := 0, proto := n3, src := x1, dst := x2, opts := ⟨#[]⟩ }, rfl⟩
    · have : (cs.size == 4) = false := by simp [h4]
      rw [this] at h
      simp at h
  | _ => simp [Value.formed, Try.underlying54] at h
theorem wpList_next_tab (w : World) {ops : Array Oper} {rest : List Oper} {o : Oper} {a : Act} {Q : Exit → Act → World → Prop} (hg : o.guard = none) (it : Operand) (hop : o.op = Op.next it false) (mb r n : Nat) (D : DataW Nat) (blk : Lit → Option Nat) (hr : Reads D blk) (left : Lit → Bool) (cnt : Nat)
    (hit : a.eval it = .pointer (some ⟨r, 0, none⟩)) (h : w.ranges Try.prog 54 ptrR mb r n D left cnt)
    (hDone : cnt = 0 → (∀ kl, left kl = false) → wpList Try.prog ops Q rest (a.put o.dst (.tuple #[.bool false])) w)
    (hMore : ∀ (i : Ip) (B : Nat) (kl : Lit) (w' : World) (cnt' : Nat), keyOf Try.prog 54 (.agg (nmV i)) = some kl → left kl = true → blk kl = some B → w'.ranges Try.prog 54 ptrR mb r n D (fun z => left z && !z.sameKey kl) cnt' → cnt' < cnt →
      w.grownBy w' (some r) → w'.heap.size = w.heap.size → (Instr.entry (.pointer (some ⟨r, 0, none⟩))).run Try.prog w' = .ok (.tuple #[.agg (nmV i), .pointer (some ⟨B, 0, none⟩)]) w' → wpList Try.prog ops Q rest (a.put o.dst (.tuple #[.bool true, .agg (nmV i), .pointer (some ⟨B, 0, none⟩)])) w') :
    wpList Try.prog ops Q (o :: rest) a w :=
  wpList_next_ranges w hg it hop 54 nmLaw ptrR (fun i : Ip => .agg (nmV i)) mkP nm_inv mkP_inv mb r n D left cnt hit h hDone (fun i c kl y w' cnt' h1 h2 h3 h4 h5 h6 h7 h8 h9 => by
    obtain ⟨B, rfl, hB⟩ := read_at hr h3 h4
    exact hMore i B kl w' cnt' h1 h2 hB h5 h6 h7 h8 h9)
theorem ranges_below {w w' : World} {b r n cnt : Nat} {D : DataW Nat} {left : Lit → Bool} (h : w.ranges Try.prog 54 ptrR b r n D left cnt) (hb : Below w.heap.size w w') : w'.ranges Try.prog 54 ptrR b r n D left cnt :=
  h.kept (row := none) ⟨hb.os, hb.tape, hb.output, hb.size, fun k hk _ => hb.block k hk⟩ (by simp) (by simp)
set_option maxHeartbeats 2000000 in
theorem bytes_any {w : World} {F : Nat → Prop} {tb mb : Nat} {most ticks : Int} {blk : Lit → Option Nat} {T : Tbl} (h : TabT w F tb mb most ticks blk T) :
    Calls Try.prog 18 #[.pointer (some ⟨tb, 0, none⟩)] w fun r w' => ∃ n : Nat, r = .returned (.int .i64 (n : Int)) ∧ Sums T.S n ∧ Below w.heap.size w w' := by
  have c2 := h.c2
  have hlt := h.lt tb h.ft
  obtain ⟨D, ho, hz, hr⟩ := h.map
  have hn32 := h.few.1
  have H := (show Hid _ from h)
  have HR := (show Hid _ from hr)
  have HZ := (show Hid _ from hz)
  have HS : Hid (∀ kl, Maps.has D kl = (T.S kl).isSome) := fun kl => by rw [hr.1, ← h.same]
  have HM := (show Hid _ from h.lt mb h.fm)
  clear h hr hz
  go_enter Try.func18, Try.ntmps18
  go_wp2_with (first | (at_range; refine wpList_range_own _ rfl _ 50 rfl 54 55 nmLaw Try.underlying50 _ mb T.n D rfl ho ?_; intro w0 hrg0 hg0 hs0) | go_in)
  go_frame
  have H0 : Hid (Below w.heap.size w w0) := ⟨hg0.os, hg0.tape, hg0.output, hg0.size, fun k hk => hg0.block k hk (by simp)⟩
  clear c2
  go_loopw [3] (fun v wr => ∃ left cnt, ∃ vs : List Lit, wr.ranges Try.prog 54 ptrR mb w.heap.size T.n D left cnt ∧ ∃ n : Nat, v = .int .i64 (n : Int) ∧ n + 2000 * cnt ≤ 2000 * T.n ∧ Hid (Below w.heap.size w wr) ∧ Hid (vs.Nodup ∧ (∀ kl, kl ∈ vs ↔ (T.S kl).isSome = true ∧ left kl = false) ∧ bytesOf T.S vs = n)) (fun _ wr => wr.rangeLeft mb w.heap.size)
  case atStart =>
    refine ⟨_, _, [], hrg0, 0, rfl, by rw [HZ.out]; omega, H0, ?_⟩
    refine ⟨List.nodup_nil, fun kl => ?_, rfl⟩
    constructor
    · intro x; cases x
    · rintro ⟨a, b⟩; rw [HS.out, a] at b; cases b
  case round =>
    obtain ⟨left, cnt, vs, hrg, n, rfl, hn, HB, HV⟩ := hrel
    clear hrg0 hg0 hs0 H0 ho
    go_wp2_with (first | (at_next; refine wpList_next_tab _ rfl _ rfl mb w.heap.size T.n D blk HR.out left cnt rfl hrg (fun hc0 hl0 => ?_) (fun i B kl w1 cnt1 hkx hlk hB hrg1 hlt1 hg1 hs1 hen => ?_)) | fail)
    · go_ret
      refine ⟨n, rfl, ⟨vs, HV.out.1, fun kl => ?_, HV.out.2.2⟩, HB.out⟩
      rw [HV.out.2.1 kl, hl0 kl]
      simp
    · have hB1 : Below w.heap.size w w1 := HB.out.trans ⟨hg1.os, hg1.tape, hg1.output, hg1.size, fun k hk => hg1.block k (by have := HB.out.size; omega) (by simp; omega)⟩
      obtain ⟨e, a1, a2, a3, a4, a5, _⟩ := (H.out.below hB1).ent kl B hB
      have hco := count_any w1 B e a2
      have HL := (show Hid _ from hlk)
      have HB1 := (show Hid _ from hB1)
      have HA1 := (show Hid _ from a1)
      have cl := count_le e
      have HC : Hid (((T.S kl).map Ent.count).getD 0 = e.count) := by rw [a1]; rfl
      generalize e.count = cc at *
      have hRG : Hid (w1.ranges Try.prog 54 ptrR mb w.heap.size T.n D (fun z => left z && !z.sameKey kl) cnt1) := hrg1
      have hRG0 : Hid (wr.ranges Try.prog 54 ptrR mb w.heap.size T.n D left cnt) := hrg
      clear hkx hlk hrg hg1 hs1 hB1 a1 a2 a3 a4 a5 hB hrg1 HB
      refine hco.mono ?_
      rintro r w2 ⟨rfl, rfl⟩
      clear hco hen
      go_wp2_with fail
      go_roundw
      case rel =>
        refine ⟨_, cnt1, kl :: vs, hRG.out, n + cc, by go_num, by omega, HB1, ?_⟩
        have hkey : WideAt.IsKeyLit kl := H.out.key kl (by
          have := H.out.same kl
          rw [HA1.out] at this
          intro x
          rw [x] at this
          cases this)
        refine ⟨List.nodup_cons.2 ⟨fun x => (by rw [HV.out.2.1 kl, HL.out] at x; exact Bool.noConfusion x.2), HV.out.1⟩, fun k2 => ?_, ?_⟩
        · rw [List.mem_cons, HV.out.2.1 k2]
          by_cases e1 : k2 = kl
          · subst e1
            simp [HA1.out, WideAt.sameKey_self hkey]
          · have e2 : k2.sameKey kl = false := by
              cases hq : k2.sameKey kl
              · rfl
              · exact absurd (WideAt.sameKey_eq hq) e1
            simp [e1, e2]
        · rw [bytesOf_cons, HC.out, HV.out.2.2]; omega
      case measure => rw [hRG.out.left_eq, hRG0.out.left_eq]; omega
end Go.Proofs.Ytkfgapljphhmcaa
