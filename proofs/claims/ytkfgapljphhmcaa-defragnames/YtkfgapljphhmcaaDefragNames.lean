/- DefragNames: for any two numbers, parts whose source, destination, protocol or number differ lie in entries of their own, and the entry that gets its end is the whole of its own parts alone; no condition. -/
import Derived.Test.YtkfgapljphhmcaaDfw
import Derived.Test.YtkfgapljphhmcaaLift
namespace Go.Proofs.Ytkfgapljphhmcaa.defragNames
open Go.ChangeShapes Go.WideShapes Go.ChangeAt Go.RowKit Go.Maps
set_option linter.unusedVariables false
set_option maxRecDepth 20000

/-- a variable of the walk's own, in its block -/
structure Box (w : World) (F : Nat → Prop) (b : Nat) (A : Array Value) : Prop where
  c : ∀ o, w.cell? ⟨b, o, none⟩ = A[o]?
  f : ∀ o, w.frozen? ⟨b, o, none⟩ = false
  lt : b < w.heap.size
  nf : ¬ F b
theorem Box.kept {w w' : World} {F F' : Nat → Prop} {b : Nat} {A : Array Value} (h : Box w F b A) (k : Kept F w F' w') : Box w' F' b A :=
  ⟨fun o => by rw [k.cell b o h.lt h.nf, h.c o], fun o => by rw [World.frozen?_of_block (a := ⟨b, o, none⟩) (k.block b h.lt h.nf), h.f o], Nat.lt_of_lt_of_le h.lt k.size, k.not b h.lt h.nf⟩
theorem Box.set {w : World} {F : Nat → Prop} {b : Nat} {A A' : Array Value} (h : Box w F b A) (o : Nat) (v : Value) (ho : o < A.size) (hA : A' = A.set! o v) : Box (w.setCell ⟨b, o, none⟩ v) F b A' := by
  refine ⟨fun p => ?_, fun p => by rw [World.frozen?_setCell]; exact h.f p, by simpa using h.lt, h.nf⟩
  have hc : w.cell? ⟨b, o, none⟩ = some A[o] := by rw [h.c o]; simp [ho]
  rw [hA]
  by_cases e : p = o
  · subst e
    rw [World.cell?_setCell_same _ _ _ hc]
    simp [ho]
  · rw [World.cell?_setCell_other _ _ _ _ (neA (fun h => e h.symm)), h.c p]
    simp [Ne.symm e]
theorem Box.other {w : World} {F : Nat → Prop} {b b2 : Nat} {A : Array Value} (h : Box w F b A) (hne : b2 ≠ b) (o : Nat) (v : Value) : Box (w.setCell ⟨b2, o, none⟩ v) F b A := by
  have hg := (grown_set w b2 o v).1
  have hk := hg.block b h.lt (fun e => hne (by injection e with e; exact e.symm))
  exact ⟨fun p => by rw [World.cell?_of_block (a := ⟨b, p, none⟩) hk, h.c p], fun p => by rw [World.frozen?_of_block (a := ⟨b, p, none⟩) hk, h.f p], by simpa using h.lt, h.nf⟩
/-- a table, with the walk's own variable turned -/
theorem tab_set {w : World} {F : Nat → Prop} {tb mb : Nat} {most ticks : Int} {blk : Lit → Option Nat} {T : Tbl} (h : TabT w F tb mb most ticks blk T) {b : Nat} (hb : ¬ F b) (o : Nat) (v : Value) : TabT (w.setCell ⟨b, o, none⟩ v) F tb mb most ticks blk T :=
  h.block (by simp) (fun k hk => (grown_set w b o v).1.block k (h.lt k hk) (fun e => hb (by injection e with e; rw [← e]; exact hk)))

def sa : ByteArray := ⟨#[97, 97, 97, 97, 97, 97, 97, 97]⟩
def sb : ByteArray := ⟨#[98, 98, 98]⟩
def sc : ByteArray := ⟨#[99, 99, 99]⟩
def sac : ByteArray := ⟨#[97, 97, 97, 97, 97, 97, 97, 97, 99, 99, 99]⟩
abbrev ipA : Ip := { tos := 0, id := 5, more := true, keep := false, off := 0, ttl := 0, proto := 17, src := 1, dst := 2, opts := ⟨#[]⟩ }
abbrev ipB0 (id proto : Int) (src dst : UInt32) : Ip := { tos := 0, id := id, more := true, keep := false, off := 0, ttl := 0, proto := proto, src := src, dst := dst, opts := ⟨#[]⟩ }
abbrev ipB (id proto : Int) (src dst : UInt32) : Ip := { tos := 0, id := id, more := false, keep := false, off := 8, ttl := 0, proto := proto, src := src, dst := dst, opts := ⟨#[]⟩ }
abbrev ipC (k : Int) : Ip := { tos := k, id := 5, more := false, keep := false, off := 8, ttl := k, proto := 17, src := 1, dst := 2, opts := ⟨#[]⟩ }
def e1 : Ent := Ent.zero.take 0 true sa
def T1 : Tbl := Tbl.none.put (nmL ipA) e1
theorem one : Tbl.none.add 3 ipA sa = ⟨T1, ⟨#[]⟩, false, 0⟩ :=
  Tbl.add_open _ _ _ _ rfl (fault_ok (by decide) (by decide) (fun _ => by decide) (by decide) (.inr (by decide))) (by decide)
def T2 (kl : Lit) : Tbl := T1.put kl (Ent.zero.take 8 false sb)
theorem two (i : Ip) (ho : i.off = 8) (hm : i.more = false) (hne : nmL i ≠ nmL ipA) : T1.add 3 i sb = ⟨T2 (nmL i), ⟨#[]⟩, false, 0⟩ ∧ (T2 (nmL i)).n = 2 := by
  have hS : T1.S (nmL i) = none := (Tbl.put_other _ _ _ _ hne).trans rfl
  have hw : T1.with (nmL i) i sb = Ent.zero.take 8 false sb := by unfold Tbl.with; rw [hS, ho, hm]; rfl
  constructor
  · rw [Tbl.add_open _ _ _ _ (by unfold partB; rw [hm, ho]; rfl) (fault_ok (by decide) (by omega) (fun h => by rw [hm] at h; cases h) (by rw [ho]; decide) (.inr (by decide))) (by rw [hw]; decide), hw]
    rfl
  · show T1.n + (if (T1.S (nmL i)).isSome then 0 else 1) = 2
    rw [hS]
    rfl
theorem three (i : Ip) (k : Int) (hne : nmL i ≠ nmL ipA) : (T2 (nmL i)).add 3 (ipC k) sc = ⟨(T2 (nmL i)).del (nmL ipA), sac, true, 0⟩ ∧ ((T2 (nmL i)).n = 2 → ((T2 (nmL i)).del (nmL ipA)).n = 1) := by
  have hn : nmL (ipC k) = nmL ipA := rfl
  have hS : (T2 (nmL i)).S (nmL ipA) = some e1 := (Tbl.put_other _ _ _ _ (Ne.symm hne)).trans (Tbl.put_S _ _ _)
  have hw : (T2 (nmL i)).with (nmL ipA) (ipC k) sc = e1.take 8 false sc := by unfold Tbl.with; rw [hS]; rfl
  constructor
  · rw [Tbl.add_whole _ _ _ _ rfl (fault_ok (by decide) (by show (0 : Int) ≤ 8; decide) (fun h => by cases h) (by show (8 : Int) + _ ≤ 2000; decide) (.inl (by rw [hn, hS]; rfl))) (by rw [hn, hw]; decide), hn, hw]
    congr 1
  · intro h2
    show (T2 (nmL i)).n - (if ((T2 (nmL i)).S (nmL ipA)).isSome then 1 else 0) = 1
    rw [hS, h2]
    rfl

set_option maxHeartbeats 2000000 in
theorem walk0 (how v : Int) (w : World) (k : Int) (k1 : 1 ≤ k) (k2 : k ≤ 100) (hv : v % 100 = k - 1) (hh : how % 4 = 0) :
    Calls Try.prog 7 #[.int .i64 how, .int .i64 v] w fun e w' => e = .returned (.bool true) ∧ Below w.heap.size w w' := by
  have hn := new_any 3 9 w
  have p1 := fun w' => place_any v 100 w' (by omega) (by omega)
  have p2 := fun w' => place_any how 4 w' (by omega) (by omega)
  rw [hv] at p1
  rw [hh] at p2
  have hk : 1 + (k - 1) = k := by omega
  have okA : ipA.ok := ⟨by decide, by decide⟩
  have okC : (ipC k).ok := ⟨⟨by show (-9223372036854775808 : Int) ≤ 17; decide, by show (17 : Int) ≤ 9223372036854775807; decide⟩, ⟨by show (-9223372036854775808 : Int) ≤ 5; decide, by show (5 : Int) ≤ 9223372036854775807; decide⟩⟩
  have okB : (ipB (5 + k) (17) 1 2).ok := ⟨⟨by show (-9223372036854775808 : Int) ≤ 17; omega, by show 17 ≤ (9223372036854775807 : Int); omega⟩, ⟨by show (-9223372036854775808 : Int) ≤ 5 + k; omega, by show 5 + k ≤ (9223372036854775807 : Int); omega⟩⟩
  have hne : nmL (ipB (5 + k) (17) 1 2) ≠ nmL ipA := nm_ne okB okA (.inr (.inr (.inr (by show (5 + k : Int) ≠ 5; omega))))
  have HN := (show Hid _ from And.intro hne (And.intro okA (And.intro okB okC)))
  clear hv hh okA okB okC hne
  go_enter Try.func7, Try.ntmps7
  go_wp2_with fail
  refine hn.mono ?_
  rintro r w1 ⟨rfl, hb1, t1⟩
  have HB := (show Hid _ from hb1)
  have HT := (show Hid _ from t1)
  have hz1 : Hid (w.heap.size + 1 < w1.heap.size) := t1.lt _ t1.ft
  obtain ⟨tb, htb⟩ : ∃ tb, tb = w.heap.size + 1 := ⟨_, rfl⟩
  rw [← htb]
  rw [← htb] at HT
  have HTB := (show Hid _ from htb)
  clear hb1 t1 hn htb
  go_wp2_with fail
  refine (p1 _).mono ?_
  rintro r w' ⟨rfl, rfl⟩
  go_wp2_with fail
  refine (p2 _).mono ?_
  rintro r w' ⟨rfl, rfl⟩
  clear p1 p2
  go_upto_region 15 with fail
  obtain ⟨W, hW⟩ : ∃ W, W = (w1.alloc (.cells (ipV ipA) 29)).alloc (.cells (ipV (ipB0 (5 + k) (17) 1 2)) 29) := ⟨_, rfl⟩
  rw [show (w1.alloc (.cells #[.int .i64 0, .int .i64 5, .bool true, .bool false, .int .i64 0, .int .i64 0, .int .i64 17, .int .u32 1, .int .u32 2, .string ⟨#[]⟩] 29)).alloc (.cells #[.int .i64 0, .int .i64 (5 + k), .bool true, .bool false, .int .i64 0, .int .i64 0, .int .i64 (17), .int .u32 1, .int .u32 2, .string ⟨#[]⟩] 29) = W from hW.symm]
  obtain ⟨F, hF⟩ : ∃ F : Nat → Prop, F = fun b => b = w.heap.size ∨ b = tb := ⟨_, rfl⟩
  rw [← hF] at HT
  have za : (w1.alloc (.cells (ipV ipA) 29)).heap.size = w1.heap.size + 1 := by simp
  have hbW : Below w1.heap.size w1 W := by rw [hW]; exact (below1 w1 _).trans ((below1 _ _).mono (by omega))
  have zW : W.heap.size = w1.heap.size + 2 := by rw [hW]; simp
  have bp : Box W F w1.heap.size (ipV ipA) := ⟨fun o => by rw [hW, World.cell?_alloc_old _ _ _ (by show w1.heap.size ≠ _; omega), World.cell?_alloc_new], fun o => by rw [hW, World.frozen?_alloc_old _ _ _ (by show w1.heap.size ≠ _; omega)]; simp, by omega, by rw [hF]; have := hz1.out; have := HTB.out; show ¬ (w1.heap.size = w.heap.size ∨ w1.heap.size = tb); omega⟩
  have bq : Box W F (w1.heap.size + 1) (ipV (ipB0 (5 + k) (17) 1 2)) := ⟨fun o => by rw [hW, ← za, World.cell?_alloc_new], fun o => by rw [hW, ← za]; simp, by omega, by rw [hF]; have := hz1.out; have := HTB.out; show ¬ (w1.heap.size + 1 = w.heap.size ∨ w1.heap.size + 1 = tb); omega⟩
  have tW : TabT W F tb w.heap.size 3 9 (fun _ => none) Tbl.none := HT.out.below hbW
  have HBW : Hid (Below w.heap.size w W ∧ ∀ b, F b → w.heap.size ≤ b) := ⟨HB.out.trans (hbW.mono HB.out.size), fun b hb => by rw [hF] at hb; have := HTB.out; rcases hb with hb | hb <;> omega⟩
  have a1 := add_any tW ipA (nm_key _ HN.out.2.1.1 HN.out.2.1.2) sa (by decide) (by decide)
  rw [one] at a1
  obtain ⟨p, hp⟩ : ∃ p, p = w1.heap.size := ⟨_, rfl⟩
  obtain ⟨q, hq⟩ : ∃ q, q = w1.heap.size + 1 := ⟨_, rfl⟩
  have hpq : p ≠ q := by omega
  have hpw : Hid (w.heap.size ≤ p) := by have := hz1.out; show _ ≤ _; omega
  have hqw : Hid (w.heap.size ≤ q) := by have := hz1.out; show _ ≤ _; omega
  rw [← hq] at bq
  rw [← hp] at bp
  rw [← hq, ← hp]
  have q1 := bp.c
  have q2 := bp.lt
  have BP := (show Hid _ from bp)
  have BQ := (show Hid _ from bq)
  clear hW hF za hbW zW bp bq tW HT HB hz1 hp hq HTB
  go_wp2_with fail
  refine a1.mono ?_
  rintro r w2 ⟨rfl, F2, blk2, k2, t2⟩
  have B2 := k2.below HBW.out.1.size HBW.out.2
  have HB2 : Hid (Below w.heap.size w w2 ∧ ∀ b, F2 b → w.heap.size ≤ b) := ⟨HBW.out.1.trans B2.1, B2.2⟩
  have BP2 := (show Hid _ from BP.out.kept k2)
  have bq2 := BQ.out.kept k2
  have q3 := bq2.c
  have q4 := bq2.lt
  have q5 := bq2.f
  have BQ2 := (show Hid _ from bq2)
  have T2' := (show Hid _ from t2)
  clear a1 k2 t2 B2 BP BQ bq2 HBW q1 q2
  go_upto_region 17 with fail
  obtain ⟨W3, hW3⟩ : ∃ W3, W3 = (w2.setCell ⟨q, 2, none⟩ (.bool false)).setCell ⟨q, 4, none⟩ (.int .i64 8) := ⟨_, rfl⟩
  rw [← hW3]
  have bq3 : Box W3 F2 q (ipV (ipB (5 + k) (17) 1 2)) := by
    rw [hW3]
    exact (BQ2.out.set 2 (.bool false) (by simp) rfl).set 4 (.int .i64 8) (by simp) rfl
  have bp3 : Box W3 F2 p (ipV ipA) := by
    rw [hW3]
    exact (BP2.out.other (Ne.symm hpq) 2 _).other (Ne.symm hpq) 4 _
  have t3 : TabT W3 F2 tb w.heap.size 3 9 blk2 T1 := by
    rw [hW3]
    exact tab_set (tab_set T2'.out BQ2.out.nf 2 _) BQ2.out.nf 4 _
  have HB3 : Hid (Below w.heap.size w W3 ∧ ∀ b, F2 b → w.heap.size ≤ b) := by
    rw [hW3]
    refine ⟨?_, HB2.out.2⟩
    exact (HB2.out.1.setCell (p := ⟨q, 2, none⟩) hqw.out _).setCell (p := ⟨q, 4, none⟩) hqw.out _
  have a2 := add_any t3 (ipB (5 + k) (17) 1 2) (nm_key _ HN.out.2.2.1.1 HN.out.2.2.1.2) sb (by decide) (by show (8 : Int) ≤ _; decide)
  obtain ⟨w2a, w2n⟩ := two (ipB (5 + k) (17) 1 2) rfl rfl HN.out.1
  rw [w2a] at a2
  have q6 := bq3.c
  have q7 := bq3.lt
  have BP3 := (show Hid _ from bp3)
  clear hW3 bq3 bp3 t3 HB2 BP2 BQ2 T2' q3 q4 q5 w2a
  go_wp2_with fail
  refine a2.mono ?_
  rintro r w4 ⟨rfl, F4, blk4, k4, t4⟩
  have B4 := k4.below HB3.out.1.size HB3.out.2
  have HB4 : Hid (Below w.heap.size w w4 ∧ ∀ b, F4 b → w.heap.size ≤ b) := ⟨HB3.out.1.trans B4.1, B4.2⟩
  have bp4 := BP3.out.kept k4
  have BP4 := (show Hid _ from bp4)
  have q1 := bp4.c
  have q2 := bp4.lt
  have q3 := bp4.f
  have hl := len_any t4
  rw [w2n] at hl
  have T4 := (show Hid _ from t4)
  have W2N := (show Hid _ from w2n)
  clear a2 k4 t4 B4 BP3 bp4 HB3 q6 q7 w2n
  go_wp2_with fail
  refine hl.mono ?_
  rintro r w' ⟨rfl, rfl⟩
  clear hl
  go_upto_region 21 with fail
  obtain ⟨W5, hW5⟩ : ∃ W5, W5 = (((w4.setCell ⟨p, 2, none⟩ (.bool false)).setCell ⟨p, 4, none⟩ (.int .i64 8)).setCell ⟨p, 0, none⟩ (.int .i64 k)).setCell ⟨p, 5, none⟩ (.int .i64 k) := ⟨_, rfl⟩
  rw [← hW5]
  have bp5 : Box W5 F4 p (ipV (ipC k)) := by
    rw [hW5]
    exact (((BP4.out.set 2 (.bool false) (by decide) rfl).set 4 (.int .i64 8) (by decide) rfl).set 0 (.int .i64 k) (by simp) rfl).set 5 (.int .i64 k) (by simp) rfl
  have t5 : TabT W5 F4 tb w.heap.size 3 9 blk4 (T2 (nmL (ipB (5 + k) (17) 1 2))) := by
    rw [hW5]
    exact tab_set (tab_set (tab_set (tab_set T4.out BP4.out.nf 2 _) BP4.out.nf 4 _) BP4.out.nf 0 _) BP4.out.nf 5 _
  have HB5 : Hid (Below w.heap.size w W5 ∧ ∀ b, F4 b → w.heap.size ≤ b) := by
    rw [hW5]
    refine ⟨?_, HB4.out.2⟩
    exact (((HB4.out.1.setCell (p := ⟨p, 2, none⟩) hpw.out _).setCell (p := ⟨p, 4, none⟩) hpw.out _).setCell (p := ⟨p, 0, none⟩) hpw.out _).setCell (p := ⟨p, 5, none⟩) hpw.out _
  have a3 := add_any t5 (ipC k) (nm_key _ HN.out.2.2.2.1 HN.out.2.2.2.2) sc (by decide) (by show (8 : Int) ≤ _; decide)
  obtain ⟨w3a, w3n⟩ := three (ipB (5 + k) (17) 1 2) k HN.out.1
  rw [w3a] at a3
  have q6 := bp5.c
  have q7 := bp5.lt
  have W3N : Hid (((T2 (nmL (ipB (5 + k) (17) 1 2))).del (nmL ipA)).n = 1) := w3n W2N.out
  clear hW5 bp5 t5 HB4 BP4 T4 q1 q2 q3 w3a w3n W2N
  go_wp2_with fail
  refine a3.mono ?_
  rintro r w6 ⟨rfl, F6, blk6, k6, t6⟩
  have B6 := k6.below HB5.out.1.size HB5.out.2
  have HB6 : Hid (Below w.heap.size w w6) := HB5.out.1.trans B6.1
  have hl := len_any t6
  rw [W3N.out] at hl
  clear a3 k6 t6 B6 HB5 q6 q7
  unfold sac
  go_wp2_with fail
  refine hl.mono ?_
  rintro r w' ⟨rfl, rfl⟩
  clear hl
  go_wp2_with fail
  refine (awake_any _).mono ?_
  rintro r w7 ⟨rfl, hb7⟩
  have HB7 : Hid (Below w.heap.size w w7) := HB6.out.trans (hb7.mono HB6.out.size)
  clear hb7 HB6
  go_wp2
  go_ret
  exact ⟨rfl, HB7.out⟩

set_option maxHeartbeats 2000000 in
theorem walk1 (how v : Int) (w : World) (k : Int) (k1 : 1 ≤ k) (k2 : k ≤ 100) (x : UInt32) (hx : (1 + k) = (x.toNat : Int)) (hx1 : x ≠ 1) (hv : v % 100 = k - 1) (hh : how % 4 = 1) :
    Calls Try.prog 7 #[.int .i64 how, .int .i64 v] w fun e w' => e = .returned (.bool true) ∧ Below w.heap.size w w' := by
  have hn := new_any 3 9 w
  have p1 := fun w' => place_any v 100 w' (by omega) (by omega)
  have p2 := fun w' => place_any how 4 w' (by omega) (by omega)
  rw [hv] at p1
  rw [hh] at p2
  have hk : 1 + (k - 1) = k := by omega
  have okA : ipA.ok := ⟨by decide, by decide⟩
  have okC : (ipC k).ok := ⟨⟨by show (-9223372036854775808 : Int) ≤ 17; decide, by show (17 : Int) ≤ 9223372036854775807; decide⟩, ⟨by show (-9223372036854775808 : Int) ≤ 5; decide, by show (5 : Int) ≤ 9223372036854775807; decide⟩⟩
  have okB : (ipB (5) (17) x 2).ok := ⟨⟨by show (-9223372036854775808 : Int) ≤ 17; omega, by show 17 ≤ (9223372036854775807 : Int); omega⟩, ⟨by show (-9223372036854775808 : Int) ≤ 5; omega, by show 5 ≤ (9223372036854775807 : Int); omega⟩⟩
  have hne : nmL (ipB (5) (17) x 2) ≠ nmL ipA := nm_ne okB okA (.inl hx1)
  have HN := (show Hid _ from And.intro hne (And.intro okA (And.intro okB okC)))
  clear hv hh okA okB okC hne
  go_enter Try.func7, Try.ntmps7
  go_wp2_with fail
  refine hn.mono ?_
  rintro r w1 ⟨rfl, hb1, t1⟩
  have HB := (show Hid _ from hb1)
  have HT := (show Hid _ from t1)
  have hz1 : Hid (w.heap.size + 1 < w1.heap.size) := t1.lt _ t1.ft
  obtain ⟨tb, htb⟩ : ∃ tb, tb = w.heap.size + 1 := ⟨_, rfl⟩
  rw [← htb]
  rw [← htb] at HT
  have HTB := (show Hid _ from htb)
  clear hb1 t1 hn htb
  go_wp2_with fail
  refine (p1 _).mono ?_
  rintro r w' ⟨rfl, rfl⟩
  go_wp2_with fail
  refine (p2 _).mono ?_
  rintro r w' ⟨rfl, rfl⟩
  clear p1 p2
  go_upto_region 15 with fail
  obtain ⟨W, hW⟩ : ∃ W, W = (w1.alloc (.cells (ipV ipA) 29)).alloc (.cells (ipV (ipB0 (5) (17) x 2)) 29) := ⟨_, rfl⟩
  rw [show (w1.alloc (.cells #[.int .i64 0, .int .i64 5, .bool true, .bool false, .int .i64 0, .int .i64 0, .int .i64 17, .int .u32 1, .int .u32 2, .string ⟨#[]⟩] 29)).alloc (.cells #[.int .i64 0, .int .i64 (5), .bool true, .bool false, .int .i64 0, .int .i64 0, .int .i64 (17), .int .u32 (x.toNat : Int), .int .u32 2, .string ⟨#[]⟩] 29) = W from hW.symm]
  obtain ⟨F, hF⟩ : ∃ F : Nat → Prop, F = fun b => b = w.heap.size ∨ b = tb := ⟨_, rfl⟩
  rw [← hF] at HT
  have za : (w1.alloc (.cells (ipV ipA) 29)).heap.size = w1.heap.size + 1 := by simp
  have hbW : Below w1.heap.size w1 W := by rw [hW]; exact (below1 w1 _).trans ((below1 _ _).mono (by omega))
  have zW : W.heap.size = w1.heap.size + 2 := by rw [hW]; simp
  have bp : Box W F w1.heap.size (ipV ipA) := ⟨fun o => by rw [hW, World.cell?_alloc_old _ _ _ (by show w1.heap.size ≠ _; omega), World.cell?_alloc_new], fun o => by rw [hW, World.frozen?_alloc_old _ _ _ (by show w1.heap.size ≠ _; omega)]; simp, by omega, by rw [hF]; have := hz1.out; have := HTB.out; show ¬ (w1.heap.size = w.heap.size ∨ w1.heap.size = tb); omega⟩
  have bq : Box W F (w1.heap.size + 1) (ipV (ipB0 (5) (17) x 2)) := ⟨fun o => by rw [hW, ← za, World.cell?_alloc_new], fun o => by rw [hW, ← za]; simp, by omega, by rw [hF]; have := hz1.out; have := HTB.out; show ¬ (w1.heap.size + 1 = w.heap.size ∨ w1.heap.size + 1 = tb); omega⟩
  have tW : TabT W F tb w.heap.size 3 9 (fun _ => none) Tbl.none := HT.out.below hbW
  have HBW : Hid (Below w.heap.size w W ∧ ∀ b, F b → w.heap.size ≤ b) := ⟨HB.out.trans (hbW.mono HB.out.size), fun b hb => by rw [hF] at hb; have := HTB.out; rcases hb with hb | hb <;> omega⟩
  have a1 := add_any tW ipA (nm_key _ HN.out.2.1.1 HN.out.2.1.2) sa (by decide) (by decide)
  rw [one] at a1
  obtain ⟨p, hp⟩ : ∃ p, p = w1.heap.size := ⟨_, rfl⟩
  obtain ⟨q, hq⟩ : ∃ q, q = w1.heap.size + 1 := ⟨_, rfl⟩
  have hpq : p ≠ q := by omega
  have hpw : Hid (w.heap.size ≤ p) := by have := hz1.out; show _ ≤ _; omega
  have hqw : Hid (w.heap.size ≤ q) := by have := hz1.out; show _ ≤ _; omega
  rw [← hq] at bq
  rw [← hp] at bp
  rw [← hq, ← hp]
  have q1 := bp.c
  have q2 := bp.lt
  have BP := (show Hid _ from bp)
  have BQ := (show Hid _ from bq)
  clear hW hF za hbW zW bp bq tW HT HB hz1 hp hq HTB
  go_wp2_with fail
  refine a1.mono ?_
  rintro r w2 ⟨rfl, F2, blk2, k2, t2⟩
  have B2 := k2.below HBW.out.1.size HBW.out.2
  have HB2 : Hid (Below w.heap.size w w2 ∧ ∀ b, F2 b → w.heap.size ≤ b) := ⟨HBW.out.1.trans B2.1, B2.2⟩
  have BP2 := (show Hid _ from BP.out.kept k2)
  have bq2 := BQ.out.kept k2
  have q3 := bq2.c
  have q4 := bq2.lt
  have q5 := bq2.f
  have BQ2 := (show Hid _ from bq2)
  have T2' := (show Hid _ from t2)
  clear a1 k2 t2 B2 BP BQ bq2 HBW q1 q2
  go_upto_region 17 with fail
  obtain ⟨W3, hW3⟩ : ∃ W3, W3 = (w2.setCell ⟨q, 2, none⟩ (.bool false)).setCell ⟨q, 4, none⟩ (.int .i64 8) := ⟨_, rfl⟩
  rw [← hW3]
  have bq3 : Box W3 F2 q (ipV (ipB (5) (17) x 2)) := by
    rw [hW3]
    exact (BQ2.out.set 2 (.bool false) (by simp) rfl).set 4 (.int .i64 8) (by simp) rfl
  have bp3 : Box W3 F2 p (ipV ipA) := by
    rw [hW3]
    exact (BP2.out.other (Ne.symm hpq) 2 _).other (Ne.symm hpq) 4 _
  have t3 : TabT W3 F2 tb w.heap.size 3 9 blk2 T1 := by
    rw [hW3]
    exact tab_set (tab_set T2'.out BQ2.out.nf 2 _) BQ2.out.nf 4 _
  have HB3 : Hid (Below w.heap.size w W3 ∧ ∀ b, F2 b → w.heap.size ≤ b) := by
    rw [hW3]
    refine ⟨?_, HB2.out.2⟩
    exact (HB2.out.1.setCell (p := ⟨q, 2, none⟩) hqw.out _).setCell (p := ⟨q, 4, none⟩) hqw.out _
  have a2 := add_any t3 (ipB (5) (17) x 2) (nm_key _ HN.out.2.2.1.1 HN.out.2.2.1.2) sb (by decide) (by show (8 : Int) ≤ _; decide)
  obtain ⟨w2a, w2n⟩ := two (ipB (5) (17) x 2) rfl rfl HN.out.1
  rw [w2a] at a2
  have q6 := bq3.c
  have q7 := bq3.lt
  have BP3 := (show Hid _ from bp3)
  clear hW3 bq3 bp3 t3 HB2 BP2 BQ2 T2' q3 q4 q5 w2a
  go_wp2_with fail
  refine a2.mono ?_
  rintro r w4 ⟨rfl, F4, blk4, k4, t4⟩
  have B4 := k4.below HB3.out.1.size HB3.out.2
  have HB4 : Hid (Below w.heap.size w w4 ∧ ∀ b, F4 b → w.heap.size ≤ b) := ⟨HB3.out.1.trans B4.1, B4.2⟩
  have bp4 := BP3.out.kept k4
  have BP4 := (show Hid _ from bp4)
  have q1 := bp4.c
  have q2 := bp4.lt
  have q3 := bp4.f
  have hl := len_any t4
  rw [w2n] at hl
  have T4 := (show Hid _ from t4)
  have W2N := (show Hid _ from w2n)
  clear a2 k4 t4 B4 BP3 bp4 HB3 q6 q7 w2n
  go_wp2_with fail
  refine hl.mono ?_
  rintro r w' ⟨rfl, rfl⟩
  clear hl
  go_upto_region 21 with fail
  obtain ⟨W5, hW5⟩ : ∃ W5, W5 = (((w4.setCell ⟨p, 2, none⟩ (.bool false)).setCell ⟨p, 4, none⟩ (.int .i64 8)).setCell ⟨p, 0, none⟩ (.int .i64 k)).setCell ⟨p, 5, none⟩ (.int .i64 k) := ⟨_, rfl⟩
  rw [← hW5]
  have bp5 : Box W5 F4 p (ipV (ipC k)) := by
    rw [hW5]
    exact (((BP4.out.set 2 (.bool false) (by decide) rfl).set 4 (.int .i64 8) (by decide) rfl).set 0 (.int .i64 k) (by simp) rfl).set 5 (.int .i64 k) (by simp) rfl
  have t5 : TabT W5 F4 tb w.heap.size 3 9 blk4 (T2 (nmL (ipB (5) (17) x 2))) := by
    rw [hW5]
    exact tab_set (tab_set (tab_set (tab_set T4.out BP4.out.nf 2 _) BP4.out.nf 4 _) BP4.out.nf 0 _) BP4.out.nf 5 _
  have HB5 : Hid (Below w.heap.size w W5 ∧ ∀ b, F4 b → w.heap.size ≤ b) := by
    rw [hW5]
    refine ⟨?_, HB4.out.2⟩
    exact (((HB4.out.1.setCell (p := ⟨p, 2, none⟩) hpw.out _).setCell (p := ⟨p, 4, none⟩) hpw.out _).setCell (p := ⟨p, 0, none⟩) hpw.out _).setCell (p := ⟨p, 5, none⟩) hpw.out _
  have a3 := add_any t5 (ipC k) (nm_key _ HN.out.2.2.2.1 HN.out.2.2.2.2) sc (by decide) (by show (8 : Int) ≤ _; decide)
  obtain ⟨w3a, w3n⟩ := three (ipB (5) (17) x 2) k HN.out.1
  rw [w3a] at a3
  have q6 := bp5.c
  have q7 := bp5.lt
  have W3N : Hid (((T2 (nmL (ipB (5) (17) x 2))).del (nmL ipA)).n = 1) := w3n W2N.out
  clear hW5 bp5 t5 HB4 BP4 T4 q1 q2 q3 w3a w3n W2N
  go_wp2_with fail
  refine a3.mono ?_
  rintro r w6 ⟨rfl, F6, blk6, k6, t6⟩
  have B6 := k6.below HB5.out.1.size HB5.out.2
  have HB6 : Hid (Below w.heap.size w w6) := HB5.out.1.trans B6.1
  have hl := len_any t6
  rw [W3N.out] at hl
  clear a3 k6 t6 B6 HB5 q6 q7
  unfold sac
  go_wp2_with fail
  refine hl.mono ?_
  rintro r w' ⟨rfl, rfl⟩
  clear hl
  go_wp2_with fail
  refine (awake_any _).mono ?_
  rintro r w7 ⟨rfl, hb7⟩
  have HB7 : Hid (Below w.heap.size w w7) := HB6.out.trans (hb7.mono HB6.out.size)
  clear hb7 HB6
  go_wp2
  go_ret
  exact ⟨rfl, HB7.out⟩

set_option maxHeartbeats 2000000 in
theorem walk2 (how v : Int) (w : World) (k : Int) (k1 : 1 ≤ k) (k2 : k ≤ 100) (x : UInt32) (hx : (2 + k) = (x.toNat : Int)) (hx1 : x ≠ 2) (hv : v % 100 = k - 1) (hh : how % 4 = 2) :
    Calls Try.prog 7 #[.int .i64 how, .int .i64 v] w fun e w' => e = .returned (.bool true) ∧ Below w.heap.size w w' := by
  have hn := new_any 3 9 w
  have p1 := fun w' => place_any v 100 w' (by omega) (by omega)
  have p2 := fun w' => place_any how 4 w' (by omega) (by omega)
  rw [hv] at p1
  rw [hh] at p2
  have hk : 1 + (k - 1) = k := by omega
  have okA : ipA.ok := ⟨by decide, by decide⟩
  have okC : (ipC k).ok := ⟨⟨by show (-9223372036854775808 : Int) ≤ 17; decide, by show (17 : Int) ≤ 9223372036854775807; decide⟩, ⟨by show (-9223372036854775808 : Int) ≤ 5; decide, by show (5 : Int) ≤ 9223372036854775807; decide⟩⟩
  have okB : (ipB (5) (17) 1 x).ok := ⟨⟨by show (-9223372036854775808 : Int) ≤ 17; omega, by show 17 ≤ (9223372036854775807 : Int); omega⟩, ⟨by show (-9223372036854775808 : Int) ≤ 5; omega, by show 5 ≤ (9223372036854775807 : Int); omega⟩⟩
  have hne : nmL (ipB (5) (17) 1 x) ≠ nmL ipA := nm_ne okB okA (.inr (.inl hx1))
  have HN := (show Hid _ from And.intro hne (And.intro okA (And.intro okB okC)))
  clear hv hh okA okB okC hne
  go_enter Try.func7, Try.ntmps7
  go_wp2_with fail
  refine hn.mono ?_
  rintro r w1 ⟨rfl, hb1, t1⟩
  have HB := (show Hid _ from hb1)
  have HT := (show Hid _ from t1)
  have hz1 : Hid (w.heap.size + 1 < w1.heap.size) := t1.lt _ t1.ft
  obtain ⟨tb, htb⟩ : ∃ tb, tb = w.heap.size + 1 := ⟨_, rfl⟩
  rw [← htb]
  rw [← htb] at HT
  have HTB := (show Hid _ from htb)
  clear hb1 t1 hn htb
  go_wp2_with fail
  refine (p1 _).mono ?_
  rintro r w' ⟨rfl, rfl⟩
  go_wp2_with fail
  refine (p2 _).mono ?_
  rintro r w' ⟨rfl, rfl⟩
  clear p1 p2
  go_upto_region 15 with fail
  obtain ⟨W, hW⟩ : ∃ W, W = (w1.alloc (.cells (ipV ipA) 29)).alloc (.cells (ipV (ipB0 (5) (17) 1 x)) 29) := ⟨_, rfl⟩
  rw [show (w1.alloc (.cells #[.int .i64 0, .int .i64 5, .bool true, .bool false, .int .i64 0, .int .i64 0, .int .i64 17, .int .u32 1, .int .u32 2, .string ⟨#[]⟩] 29)).alloc (.cells #[.int .i64 0, .int .i64 (5), .bool true, .bool false, .int .i64 0, .int .i64 0, .int .i64 (17), .int .u32 1, .int .u32 (x.toNat : Int), .string ⟨#[]⟩] 29) = W from hW.symm]
  obtain ⟨F, hF⟩ : ∃ F : Nat → Prop, F = fun b => b = w.heap.size ∨ b = tb := ⟨_, rfl⟩
  rw [← hF] at HT
  have za : (w1.alloc (.cells (ipV ipA) 29)).heap.size = w1.heap.size + 1 := by simp
  have hbW : Below w1.heap.size w1 W := by rw [hW]; exact (below1 w1 _).trans ((below1 _ _).mono (by omega))
  have zW : W.heap.size = w1.heap.size + 2 := by rw [hW]; simp
  have bp : Box W F w1.heap.size (ipV ipA) := ⟨fun o => by rw [hW, World.cell?_alloc_old _ _ _ (by show w1.heap.size ≠ _; omega), World.cell?_alloc_new], fun o => by rw [hW, World.frozen?_alloc_old _ _ _ (by show w1.heap.size ≠ _; omega)]; simp, by omega, by rw [hF]; have := hz1.out; have := HTB.out; show ¬ (w1.heap.size = w.heap.size ∨ w1.heap.size = tb); omega⟩
  have bq : Box W F (w1.heap.size + 1) (ipV (ipB0 (5) (17) 1 x)) := ⟨fun o => by rw [hW, ← za, World.cell?_alloc_new], fun o => by rw [hW, ← za]; simp, by omega, by rw [hF]; have := hz1.out; have := HTB.out; show ¬ (w1.heap.size + 1 = w.heap.size ∨ w1.heap.size + 1 = tb); omega⟩
  have tW : TabT W F tb w.heap.size 3 9 (fun _ => none) Tbl.none := HT.out.below hbW
  have HBW : Hid (Below w.heap.size w W ∧ ∀ b, F b → w.heap.size ≤ b) := ⟨HB.out.trans (hbW.mono HB.out.size), fun b hb => by rw [hF] at hb; have := HTB.out; rcases hb with hb | hb <;> omega⟩
  have a1 := add_any tW ipA (nm_key _ HN.out.2.1.1 HN.out.2.1.2) sa (by decide) (by decide)
  rw [one] at a1
  obtain ⟨p, hp⟩ : ∃ p, p = w1.heap.size := ⟨_, rfl⟩
  obtain ⟨q, hq⟩ : ∃ q, q = w1.heap.size + 1 := ⟨_, rfl⟩
  have hpq : p ≠ q := by omega
  have hpw : Hid (w.heap.size ≤ p) := by have := hz1.out; show _ ≤ _; omega
  have hqw : Hid (w.heap.size ≤ q) := by have := hz1.out; show _ ≤ _; omega
  rw [← hq] at bq
  rw [← hp] at bp
  rw [← hq, ← hp]
  have q1 := bp.c
  have q2 := bp.lt
  have BP := (show Hid _ from bp)
  have BQ := (show Hid _ from bq)
  clear hW hF za hbW zW bp bq tW HT HB hz1 hp hq HTB
  go_wp2_with fail
  refine a1.mono ?_
  rintro r w2 ⟨rfl, F2, blk2, k2, t2⟩
  have B2 := k2.below HBW.out.1.size HBW.out.2
  have HB2 : Hid (Below w.heap.size w w2 ∧ ∀ b, F2 b → w.heap.size ≤ b) := ⟨HBW.out.1.trans B2.1, B2.2⟩
  have BP2 := (show Hid _ from BP.out.kept k2)
  have bq2 := BQ.out.kept k2
  have q3 := bq2.c
  have q4 := bq2.lt
  have q5 := bq2.f
  have BQ2 := (show Hid _ from bq2)
  have T2' := (show Hid _ from t2)
  clear a1 k2 t2 B2 BP BQ bq2 HBW q1 q2
  go_upto_region 17 with fail
  obtain ⟨W3, hW3⟩ : ∃ W3, W3 = (w2.setCell ⟨q, 2, none⟩ (.bool false)).setCell ⟨q, 4, none⟩ (.int .i64 8) := ⟨_, rfl⟩
  rw [← hW3]
  have bq3 : Box W3 F2 q (ipV (ipB (5) (17) 1 x)) := by
    rw [hW3]
    exact (BQ2.out.set 2 (.bool false) (by simp) rfl).set 4 (.int .i64 8) (by simp) rfl
  have bp3 : Box W3 F2 p (ipV ipA) := by
    rw [hW3]
    exact (BP2.out.other (Ne.symm hpq) 2 _).other (Ne.symm hpq) 4 _
  have t3 : TabT W3 F2 tb w.heap.size 3 9 blk2 T1 := by
    rw [hW3]
    exact tab_set (tab_set T2'.out BQ2.out.nf 2 _) BQ2.out.nf 4 _
  have HB3 : Hid (Below w.heap.size w W3 ∧ ∀ b, F2 b → w.heap.size ≤ b) := by
    rw [hW3]
    refine ⟨?_, HB2.out.2⟩
    exact (HB2.out.1.setCell (p := ⟨q, 2, none⟩) hqw.out _).setCell (p := ⟨q, 4, none⟩) hqw.out _
  have a2 := add_any t3 (ipB (5) (17) 1 x) (nm_key _ HN.out.2.2.1.1 HN.out.2.2.1.2) sb (by decide) (by show (8 : Int) ≤ _; decide)
  obtain ⟨w2a, w2n⟩ := two (ipB (5) (17) 1 x) rfl rfl HN.out.1
  rw [w2a] at a2
  have q6 := bq3.c
  have q7 := bq3.lt
  have BP3 := (show Hid _ from bp3)
  clear hW3 bq3 bp3 t3 HB2 BP2 BQ2 T2' q3 q4 q5 w2a
  go_wp2_with fail
  refine a2.mono ?_
  rintro r w4 ⟨rfl, F4, blk4, k4, t4⟩
  have B4 := k4.below HB3.out.1.size HB3.out.2
  have HB4 : Hid (Below w.heap.size w w4 ∧ ∀ b, F4 b → w.heap.size ≤ b) := ⟨HB3.out.1.trans B4.1, B4.2⟩
  have bp4 := BP3.out.kept k4
  have BP4 := (show Hid _ from bp4)
  have q1 := bp4.c
  have q2 := bp4.lt
  have q3 := bp4.f
  have hl := len_any t4
  rw [w2n] at hl
  have T4 := (show Hid _ from t4)
  have W2N := (show Hid _ from w2n)
  clear a2 k4 t4 B4 BP3 bp4 HB3 q6 q7 w2n
  go_wp2_with fail
  refine hl.mono ?_
  rintro r w' ⟨rfl, rfl⟩
  clear hl
  go_upto_region 21 with fail
  obtain ⟨W5, hW5⟩ : ∃ W5, W5 = (((w4.setCell ⟨p, 2, none⟩ (.bool false)).setCell ⟨p, 4, none⟩ (.int .i64 8)).setCell ⟨p, 0, none⟩ (.int .i64 k)).setCell ⟨p, 5, none⟩ (.int .i64 k) := ⟨_, rfl⟩
  rw [← hW5]
  have bp5 : Box W5 F4 p (ipV (ipC k)) := by
    rw [hW5]
    exact (((BP4.out.set 2 (.bool false) (by decide) rfl).set 4 (.int .i64 8) (by decide) rfl).set 0 (.int .i64 k) (by simp) rfl).set 5 (.int .i64 k) (by simp) rfl
  have t5 : TabT W5 F4 tb w.heap.size 3 9 blk4 (T2 (nmL (ipB (5) (17) 1 x))) := by
    rw [hW5]
    exact tab_set (tab_set (tab_set (tab_set T4.out BP4.out.nf 2 _) BP4.out.nf 4 _) BP4.out.nf 0 _) BP4.out.nf 5 _
  have HB5 : Hid (Below w.heap.size w W5 ∧ ∀ b, F4 b → w.heap.size ≤ b) := by
    rw [hW5]
    refine ⟨?_, HB4.out.2⟩
    exact (((HB4.out.1.setCell (p := ⟨p, 2, none⟩) hpw.out _).setCell (p := ⟨p, 4, none⟩) hpw.out _).setCell (p := ⟨p, 0, none⟩) hpw.out _).setCell (p := ⟨p, 5, none⟩) hpw.out _
  have a3 := add_any t5 (ipC k) (nm_key _ HN.out.2.2.2.1 HN.out.2.2.2.2) sc (by decide) (by show (8 : Int) ≤ _; decide)
  obtain ⟨w3a, w3n⟩ := three (ipB (5) (17) 1 x) k HN.out.1
  rw [w3a] at a3
  have q6 := bp5.c
  have q7 := bp5.lt
  have W3N : Hid (((T2 (nmL (ipB (5) (17) 1 x))).del (nmL ipA)).n = 1) := w3n W2N.out
  clear hW5 bp5 t5 HB4 BP4 T4 q1 q2 q3 w3a w3n W2N
  go_wp2_with fail
  refine a3.mono ?_
  rintro r w6 ⟨rfl, F6, blk6, k6, t6⟩
  have B6 := k6.below HB5.out.1.size HB5.out.2
  have HB6 : Hid (Below w.heap.size w w6) := HB5.out.1.trans B6.1
  have hl := len_any t6
  rw [W3N.out] at hl
  clear a3 k6 t6 B6 HB5 q6 q7
  unfold sac
  go_wp2_with fail
  refine hl.mono ?_
  rintro r w' ⟨rfl, rfl⟩
  clear hl
  go_wp2_with fail
  refine (awake_any _).mono ?_
  rintro r w7 ⟨rfl, hb7⟩
  have HB7 : Hid (Below w.heap.size w w7) := HB6.out.trans (hb7.mono HB6.out.size)
  clear hb7 HB6
  go_wp2
  go_ret
  exact ⟨rfl, HB7.out⟩

set_option maxHeartbeats 2000000 in
theorem walk3 (how v : Int) (w : World) (k : Int) (k1 : 1 ≤ k) (k2 : k ≤ 100) (hv : v % 100 = k - 1) (hh : how % 4 = 3) :
    Calls Try.prog 7 #[.int .i64 how, .int .i64 v] w fun e w' => e = .returned (.bool true) ∧ Below w.heap.size w w' := by
  have hn := new_any 3 9 w
  have p1 := fun w' => place_any v 100 w' (by omega) (by omega)
  have p2 := fun w' => place_any how 4 w' (by omega) (by omega)
  rw [hv] at p1
  rw [hh] at p2
  have hk : 1 + (k - 1) = k := by omega
  have okA : ipA.ok := ⟨by decide, by decide⟩
  have okC : (ipC k).ok := ⟨⟨by show (-9223372036854775808 : Int) ≤ 17; decide, by show (17 : Int) ≤ 9223372036854775807; decide⟩, ⟨by show (-9223372036854775808 : Int) ≤ 5; decide, by show (5 : Int) ≤ 9223372036854775807; decide⟩⟩
  have okB : (ipB (5) (17 + k) 1 2).ok := ⟨⟨by show (-9223372036854775808 : Int) ≤ 17 + k; omega, by show 17 + k ≤ (9223372036854775807 : Int); omega⟩, ⟨by show (-9223372036854775808 : Int) ≤ 5; omega, by show 5 ≤ (9223372036854775807 : Int); omega⟩⟩
  have hne : nmL (ipB (5) (17 + k) 1 2) ≠ nmL ipA := nm_ne okB okA (.inr (.inr (.inl (by show (17 + k : Int) ≠ 17; omega))))
  have HN := (show Hid _ from And.intro hne (And.intro okA (And.intro okB okC)))
  clear hv hh okA okB okC hne
  go_enter Try.func7, Try.ntmps7
  go_wp2_with fail
  refine hn.mono ?_
  rintro r w1 ⟨rfl, hb1, t1⟩
  have HB := (show Hid _ from hb1)
  have HT := (show Hid _ from t1)
  have hz1 : Hid (w.heap.size + 1 < w1.heap.size) := t1.lt _ t1.ft
  obtain ⟨tb, htb⟩ : ∃ tb, tb = w.heap.size + 1 := ⟨_, rfl⟩
  rw [← htb]
  rw [← htb] at HT
  have HTB := (show Hid _ from htb)
  clear hb1 t1 hn htb
  go_wp2_with fail
  refine (p1 _).mono ?_
  rintro r w' ⟨rfl, rfl⟩
  go_wp2_with fail
  refine (p2 _).mono ?_
  rintro r w' ⟨rfl, rfl⟩
  clear p1 p2
  go_upto_region 15 with fail
  obtain ⟨W, hW⟩ : ∃ W, W = (w1.alloc (.cells (ipV ipA) 29)).alloc (.cells (ipV (ipB0 (5) (17 + k) 1 2)) 29) := ⟨_, rfl⟩
  rw [show (w1.alloc (.cells #[.int .i64 0, .int .i64 5, .bool true, .bool false, .int .i64 0, .int .i64 0, .int .i64 17, .int .u32 1, .int .u32 2, .string ⟨#[]⟩] 29)).alloc (.cells #[.int .i64 0, .int .i64 (5), .bool true, .bool false, .int .i64 0, .int .i64 0, .int .i64 (17 + k), .int .u32 1, .int .u32 2, .string ⟨#[]⟩] 29) = W from hW.symm]
  obtain ⟨F, hF⟩ : ∃ F : Nat → Prop, F = fun b => b = w.heap.size ∨ b = tb := ⟨_, rfl⟩
  rw [← hF] at HT
  have za : (w1.alloc (.cells (ipV ipA) 29)).heap.size = w1.heap.size + 1 := by simp
  have hbW : Below w1.heap.size w1 W := by rw [hW]; exact (below1 w1 _).trans ((below1 _ _).mono (by omega))
  have zW : W.heap.size = w1.heap.size + 2 := by rw [hW]; simp
  have bp : Box W F w1.heap.size (ipV ipA) := ⟨fun o => by rw [hW, World.cell?_alloc_old _ _ _ (by show w1.heap.size ≠ _; omega), World.cell?_alloc_new], fun o => by rw [hW, World.frozen?_alloc_old _ _ _ (by show w1.heap.size ≠ _; omega)]; simp, by omega, by rw [hF]; have := hz1.out; have := HTB.out; show ¬ (w1.heap.size = w.heap.size ∨ w1.heap.size = tb); omega⟩
  have bq : Box W F (w1.heap.size + 1) (ipV (ipB0 (5) (17 + k) 1 2)) := ⟨fun o => by rw [hW, ← za, World.cell?_alloc_new], fun o => by rw [hW, ← za]; simp, by omega, by rw [hF]; have := hz1.out; have := HTB.out; show ¬ (w1.heap.size + 1 = w.heap.size ∨ w1.heap.size + 1 = tb); omega⟩
  have tW : TabT W F tb w.heap.size 3 9 (fun _ => none) Tbl.none := HT.out.below hbW
  have HBW : Hid (Below w.heap.size w W ∧ ∀ b, F b → w.heap.size ≤ b) := ⟨HB.out.trans (hbW.mono HB.out.size), fun b hb => by rw [hF] at hb; have := HTB.out; rcases hb with hb | hb <;> omega⟩
  have a1 := add_any tW ipA (nm_key _ HN.out.2.1.1 HN.out.2.1.2) sa (by decide) (by decide)
  rw [one] at a1
  obtain ⟨p, hp⟩ : ∃ p, p = w1.heap.size := ⟨_, rfl⟩
  obtain ⟨q, hq⟩ : ∃ q, q = w1.heap.size + 1 := ⟨_, rfl⟩
  have hpq : p ≠ q := by omega
  have hpw : Hid (w.heap.size ≤ p) := by have := hz1.out; show _ ≤ _; omega
  have hqw : Hid (w.heap.size ≤ q) := by have := hz1.out; show _ ≤ _; omega
  rw [← hq] at bq
  rw [← hp] at bp
  rw [← hq, ← hp]
  have q1 := bp.c
  have q2 := bp.lt
  have BP := (show Hid _ from bp)
  have BQ := (show Hid _ from bq)
  clear hW hF za hbW zW bp bq tW HT HB hz1 hp hq HTB
  go_wp2_with fail
  refine a1.mono ?_
  rintro r w2 ⟨rfl, F2, blk2, k2, t2⟩
  have B2 := k2.below HBW.out.1.size HBW.out.2
  have HB2 : Hid (Below w.heap.size w w2 ∧ ∀ b, F2 b → w.heap.size ≤ b) := ⟨HBW.out.1.trans B2.1, B2.2⟩
  have BP2 := (show Hid _ from BP.out.kept k2)
  have bq2 := BQ.out.kept k2
  have q3 := bq2.c
  have q4 := bq2.lt
  have q5 := bq2.f
  have BQ2 := (show Hid _ from bq2)
  have T2' := (show Hid _ from t2)
  clear a1 k2 t2 B2 BP BQ bq2 HBW q1 q2
  go_upto_region 17 with fail
  obtain ⟨W3, hW3⟩ : ∃ W3, W3 = (w2.setCell ⟨q, 2, none⟩ (.bool false)).setCell ⟨q, 4, none⟩ (.int .i64 8) := ⟨_, rfl⟩
  rw [← hW3]
  have bq3 : Box W3 F2 q (ipV (ipB (5) (17 + k) 1 2)) := by
    rw [hW3]
    exact (BQ2.out.set 2 (.bool false) (by simp) rfl).set 4 (.int .i64 8) (by simp) rfl
  have bp3 : Box W3 F2 p (ipV ipA) := by
    rw [hW3]
    exact (BP2.out.other (Ne.symm hpq) 2 _).other (Ne.symm hpq) 4 _
  have t3 : TabT W3 F2 tb w.heap.size 3 9 blk2 T1 := by
    rw [hW3]
    exact tab_set (tab_set T2'.out BQ2.out.nf 2 _) BQ2.out.nf 4 _
  have HB3 : Hid (Below w.heap.size w W3 ∧ ∀ b, F2 b → w.heap.size ≤ b) := by
    rw [hW3]
    refine ⟨?_, HB2.out.2⟩
    exact (HB2.out.1.setCell (p := ⟨q, 2, none⟩) hqw.out _).setCell (p := ⟨q, 4, none⟩) hqw.out _
  have a2 := add_any t3 (ipB (5) (17 + k) 1 2) (nm_key _ HN.out.2.2.1.1 HN.out.2.2.1.2) sb (by decide) (by show (8 : Int) ≤ _; decide)
  obtain ⟨w2a, w2n⟩ := two (ipB (5) (17 + k) 1 2) rfl rfl HN.out.1
  rw [w2a] at a2
  have q6 := bq3.c
  have q7 := bq3.lt
  have BP3 := (show Hid _ from bp3)
  clear hW3 bq3 bp3 t3 HB2 BP2 BQ2 T2' q3 q4 q5 w2a
  go_wp2_with fail
  refine a2.mono ?_
  rintro r w4 ⟨rfl, F4, blk4, k4, t4⟩
  have B4 := k4.below HB3.out.1.size HB3.out.2
  have HB4 : Hid (Below w.heap.size w w4 ∧ ∀ b, F4 b → w.heap.size ≤ b) := ⟨HB3.out.1.trans B4.1, B4.2⟩
  have bp4 := BP3.out.kept k4
  have BP4 := (show Hid _ from bp4)
  have q1 := bp4.c
  have q2 := bp4.lt
  have q3 := bp4.f
  have hl := len_any t4
  rw [w2n] at hl
  have T4 := (show Hid _ from t4)
  have W2N := (show Hid _ from w2n)
  clear a2 k4 t4 B4 BP3 bp4 HB3 q6 q7 w2n
  go_wp2_with fail
  refine hl.mono ?_
  rintro r w' ⟨rfl, rfl⟩
  clear hl
  go_upto_region 21 with fail
  obtain ⟨W5, hW5⟩ : ∃ W5, W5 = (((w4.setCell ⟨p, 2, none⟩ (.bool false)).setCell ⟨p, 4, none⟩ (.int .i64 8)).setCell ⟨p, 0, none⟩ (.int .i64 k)).setCell ⟨p, 5, none⟩ (.int .i64 k) := ⟨_, rfl⟩
  rw [← hW5]
  have bp5 : Box W5 F4 p (ipV (ipC k)) := by
    rw [hW5]
    exact (((BP4.out.set 2 (.bool false) (by decide) rfl).set 4 (.int .i64 8) (by decide) rfl).set 0 (.int .i64 k) (by simp) rfl).set 5 (.int .i64 k) (by simp) rfl
  have t5 : TabT W5 F4 tb w.heap.size 3 9 blk4 (T2 (nmL (ipB (5) (17 + k) 1 2))) := by
    rw [hW5]
    exact tab_set (tab_set (tab_set (tab_set T4.out BP4.out.nf 2 _) BP4.out.nf 4 _) BP4.out.nf 0 _) BP4.out.nf 5 _
  have HB5 : Hid (Below w.heap.size w W5 ∧ ∀ b, F4 b → w.heap.size ≤ b) := by
    rw [hW5]
    refine ⟨?_, HB4.out.2⟩
    exact (((HB4.out.1.setCell (p := ⟨p, 2, none⟩) hpw.out _).setCell (p := ⟨p, 4, none⟩) hpw.out _).setCell (p := ⟨p, 0, none⟩) hpw.out _).setCell (p := ⟨p, 5, none⟩) hpw.out _
  have a3 := add_any t5 (ipC k) (nm_key _ HN.out.2.2.2.1 HN.out.2.2.2.2) sc (by decide) (by show (8 : Int) ≤ _; decide)
  obtain ⟨w3a, w3n⟩ := three (ipB (5) (17 + k) 1 2) k HN.out.1
  rw [w3a] at a3
  have q6 := bp5.c
  have q7 := bp5.lt
  have W3N : Hid (((T2 (nmL (ipB (5) (17 + k) 1 2))).del (nmL ipA)).n = 1) := w3n W2N.out
  clear hW5 bp5 t5 HB4 BP4 T4 q1 q2 q3 w3a w3n W2N
  go_wp2_with fail
  refine a3.mono ?_
  rintro r w6 ⟨rfl, F6, blk6, k6, t6⟩
  have B6 := k6.below HB5.out.1.size HB5.out.2
  have HB6 : Hid (Below w.heap.size w w6) := HB5.out.1.trans B6.1
  have hl := len_any t6
  rw [W3N.out] at hl
  clear a3 k6 t6 B6 HB5 q6 q7
  unfold sac
  go_wp2_with fail
  refine hl.mono ?_
  rintro r w' ⟨rfl, rfl⟩
  clear hl
  go_wp2_with fail
  refine (awake_any _).mono ?_
  rintro r w7 ⟨rfl, hb7⟩
  have HB7 : Hid (Below w.heap.size w w7) := HB6.out.trans (hb7.mono HB6.out.size)
  clear hb7 HB6
  go_wp2
  go_ret
  exact ⟨rfl, HB7.out⟩

theorem walk (how : Int) (x1 : (Lit.int .i64 how).wf = true) (v : Int) (x2 : (Lit.int .i64 v).wf = true) (w : World) :
    Calls Try.prog 7 #[.int .i64 how, .int .i64 v] w fun e w' => e = .returned (.bool true) ∧ Below w.heap.size w w' := by
  obtain ⟨k, hk⟩ : ∃ k : Int, v % 100 = k - 1 := ⟨v % 100 + 1, by omega⟩
  have k1 : 1 ≤ k := by omega
  have k2 : k ≤ 100 := by omega
  have hh : how % 4 = 0 ∨ how % 4 = 1 ∨ how % 4 = 2 ∨ how % 4 = 3 := by omega
  have hx : ∀ a : Nat, a ≤ 2 → ∃ x : UInt32, (a : Int) + k = (x.toNat : Int) ∧ x.toNat ≠ a := fun a ha => by
    refine ⟨UInt32.ofNat (a + k.toNat), ?_⟩
    have : (UInt32.ofNat (a + k.toNat)).toNat = a + k.toNat := by
      rw [UInt32.toNat_ofNat']
      exact Nat.mod_eq_of_lt (by omega)
    rw [this]
    omega
  rcases hh with h | h | h | h
  · exact walk0 how v w k k1 k2 hk h
  · obtain ⟨x, a, b⟩ := hx 1 (by omega)
    exact walk1 how v w k k1 k2 x (by exact a) (fun e => b (by rw [e]; rfl)) hk h
  · obtain ⟨x, a, b⟩ := hx 2 (by omega)
    exact walk2 how v w k k1 k2 x (by exact a) (fun e => b (by rw [e]; rfl)) hk h
  · exact walk3 how v w k k1 k2 hk h
/-! ### THE ROW's STEP -/
set_option maxRecDepth 100000 in
theorem lifted (os : Os) (started : os.Started) (H : Type) (enc : TypeId × Value → H) :
    ReturnsInHanded {} Try.checked os 7 .any (Rows.defragNamesSpec.pre6 enc Try.prog Try.f7 Rows.defragNamesRow.domain false) (Rows.defragNamesSpec.post enc Try.prog Try.f7 false true false false) := by
  refine returnsInHanded_of_change (C := Try.checked) own started (by kernel_rfl) Try.func7
    (ChangeSpec.witness6 (enc := enc) (C := Try.checked) false ⟨#[], #[.int .i64 0, .int .i64 0], []⟩ 8 (by kernel_rfl) (by kernel_rfl) (by kernel_rfl) (by kernel_rfl)) ?_
  intro W base args ds gs before hval0 hW hcnd _
  have hval : ∀ (j : Nat) t v, Try.f7.params[j]? = some t → args[j]? = some v → Value.okWide Try.prog W .any base t v := hval0
  have hW' := hW
  obtain ⟨p, q, hA0, hV, rfl, hfz, hnd⟩ := hW
  have hA : DataW.TrodAll enc Try.prog W 0 (fun _ => true) true Try.f7.params.toList args.toList ds p := hA0
  have hB := fun (W' : World) (bel : Below W.heap.size W W') => below_trodAll_of laidOut bel _ (by kernel_rfl) hA
  rw [Try.params7] at hA hval
  obtain ⟨v0, vs0, d0, ds0, p0, q0, hargs, rfl, rfl, h0, r0⟩ := trodAll_cons hA
  obtain ⟨v1, vs1, d1, ds1, p1, q1, rfl, rfl, rfl, h1, r1⟩ := trodAll_cons r0
  obtain ⟨rfl, rfl, rfl⟩ := trodAll_nil r1
  obtain rfl : args = #[v0, v1] := by cases args; simp_all
  obtain ⟨rfl, rfl⟩ := trodVars_none hV
  obtain ⟨a0, rfl, rfl, rfl, w0⟩ := open_int Try.underlying3 (hval 0 3 v0 rfl rfl) h0
  obtain ⟨a1, rfl, rfl, rfl, w1⟩ := open_int Try.underlying3 (hval 1 3 v1 rfl rfl) h1
  clear hA0 hval0
  refine (walk a0 w0 a1 w1 W).mono fun e W' ⟨he, bel⟩ => ?_
  subst he
  exact ⟨_, rfl, _, _, _, [], _, [], hW', trodAll_mk1 (shut_bool Try.underlying4 _), hB W' bel, rfl, bel.frame _, fun h => by cases h⟩

theorem over : Rows.defragNamesRow.holds Try.pinned (OpenSpec.ofChange Rows.defragNamesSpec) :=
  OpenClaim.holds_of_wide 7 Try.f7 rfl rfl rfl rfl rfl rfl rfl ⟨rfl, rfl, rfl, rfl, rfl⟩ rfl rfl rfl rfl rfl (by kernel_rfl) Try.func7 (by kernel_rfl)
    (of_decide_eq_true (by kernel_rfl)) (by unfold Func.isWrapper; first | (rw [if_pos (by decide +kernel)]; kernel_rfl) | (rw [if_neg (by decide +kernel)]; exact ⟨rfl, rfl⟩))
    (fun os started H enc _ => lifted os started H enc)

/-- THE STATEMENT -/
theorem proved : Rows.DefragNamesSaid := over
#print axioms proved
end Go.Proofs.Ytkfgapljphhmcaa.defragNames
