/- DefragPlays: for any bounds and any script of parts, ticks and flushes the table of the program answers as the document's own answer does; no condition. -/
import Derived.Test.YtkfgapljphhmcaaDfTwo
import Derived.Test.YtkfgapljphhmcaaLiftOp7
import Derived.Test.YtkfgapljphhmcaaSpine2
import Derived.Deep.CutRange
import Derived.Deep.CutBlock
import Derived.Deep.DeepCutAuto
namespace Go.Proofs.Ytkfgapljphhmcaa.defragPlays
open Go.ChangeShapes Go.WideShapes Go.ChangeAt Go.RowKit Go.Maps
set_option linter.unusedVariables false
set_option maxRecDepth 20000
/-- what holds ahead of a round -/
def St (w0 w : World) (tb rt : Nat) (m tk : Int) (k : Nat) : Prop := ∃ now T L, Pair w0 w (fun _ => False) tb rt m tk now T L ∧ RelT T (L.map Prod.fst) now ∧ (0 ≤ now ∧ now ≤ 100000 * (k : Int)) ∧ ∀ x ∈ L, 0 ≤ x.1.at_
theorem St.bel {w0 w : World} {tb rt : Nat} {m tk : Int} {k : Nat} (h : St w0 w tb rt m tk k) : Below w0.heap.size w0 w := by obtain ⟨_, _, _, h, _⟩ := h; exact h.bel
theorem opi : (Try.prog.info? 31).map (·.size) = some 13 := by kernel_rfl
set_option maxHeartbeats 4000000 in
theorem walk (most : Int) (wm : (Lit.int .i64 most).wf = true) (ticks : Int) (wt : (Lit.int .i64 ticks).wf = true) (a : Option Addr) (len cap : Nat) (w : World) (hops : IsOps w a len) :
    Calls Try.prog 3 #[.int .i64 most, .int .i64 ticks, .slice a len cap] w fun e w' => e = .returned (.bool true) ∧ Below w.heap.size w w' := by
  have hn := new_any most ticks w
  have hn2 := fun w => refNew_any most ticks w
  obtain ⟨m, hm⟩ : ∃ m, m = max 1 (min most 32) := ⟨_, rfl⟩
  obtain ⟨tk, htk⟩ : ∃ tk, tk = max 1 (min ticks 100000) := ⟨_, rfl⟩
  rw [← hm, ← htk] at hn
  rw [← hm, ← htk] at hn2
  have HO := (show Hid _ from hops)
  have hlen := hops.2
  unfold maxLen at hlen
  clear hm htk wm wt hops
  go_enter Try.func3, Try.ntmps3
  go_wp2_with fail
  refine hn.mono ?_
  rintro r w1 ⟨rfl, hb1, t1⟩
  have H1 := (show Hid _ from And.intro hb1 t1)
  clear hn hb1 t1
  go_wp2_with fail
  refine (hn2 _).mono ?_
  rintro r w2 ⟨rfl, hb2, t2⟩
  obtain ⟨tb, htb⟩ : ∃ tb, tb = w.heap.size + 1 := ⟨_, rfl⟩
  obtain ⟨rt, hrt⟩ : ∃ rt, rt = w1.heap.size := ⟨_, rfl⟩
  have HS : Hid (St w w2 tb rt m tk 0) := by
    refine ⟨0, Tbl.none, [], ?_, RelT.none 0, by omega, fun x hx => absurd hx List.not_mem_nil⟩
    rw [htb, hrt]
    exact pair_new H1.out.2 (fun b hb => by omega) H1.out.1 hb2 t2 (fun b hb => by omega)
  rw [← htb, ← hrt]
  clear hb2 t2 H1 htb hrt hn2
  go_wp2_with fail
  go_loopw [9] (fun t wr => ∃ k : Nat, k ≤ len ∧ k ≤ 40 ∧ t = .int .i64 (k : Int) ∧ Hid (St w wr tb rt m tk k)) (fun t _ => len - (intOf t).toNat)
  case atStart => exact ⟨0, Nat.zero_le _, by omega, rfl, HS⟩
  case round =>
    obtain ⟨k, hk, hk40, rfl, HK⟩ := hrel
    clear HS
    by_cases hkl : k < len
    · by_cases hk4 : k < 40
      · obtain ⟨ad, o, rfl, hwf, hca⟩ := HO.out.1 k hkl
        have hld := run_loadAt_list (P := Try.prog) wr (ad.add (k * 13)) 31 (op7C o) _ (hca.below_of HK.out.bel) Try.underlying31 rfl opi
        obtain ⟨kd, n0, i, s⟩ := o
        obtain ⟨_, _, wi, ws⟩ := hwf
        simp only at wi ws
        have hio := wi.2.2.1
        have hik : i.ok := ⟨wi.2.2.2.2.1, wi.2.1⟩
        have HWI := (show Hid _ from And.intro hio hik)
        unfold maxLen at ws
        clear hca wi hio hik
        go_upto_region 9 with (refine wpList_lda hld rfl _ rfl rfl ?_)
        obtain ⟨W0, hW0⟩ : ∃ W0, W0 = wr.alloc (.cells #[.int .i64 kd, .int .i64 n0, .int .i64 i.tos, .int .i64 i.id, .bool i.more, .bool i.keep, .int .i64 i.off, .int .i64 i.ttl, .int .i64 i.proto, .int .u32 (i.src.toNat : Int), .int .u32 (i.dst.toNat : Int), .string i.opts, .string s] 31) := ⟨_, rfl⟩
        have q0 : ∀ j, W0.cell? ⟨wr.heap.size, j, none⟩ = (#[.int .i64 kd, .int .i64 n0, .int .i64 i.tos, .int .i64 i.id, .bool i.more, .bool i.keep, .int .i64 i.off, .int .i64 i.ttl, .int .i64 i.proto, .int .u32 (i.src.toNat : Int), .int .u32 (i.dst.toNat : Int), .string i.opts, .string s] : Array Value)[j]? := fun j => by rw [hW0]; exact World.cell?_alloc_new _ _ _ _
        have b0 : Below wr.heap.size wr W0 := by rw [hW0]; exact below1 _ _
        have z0 : wr.heap.size < W0.heap.size := by rw [hW0]; simp
        obtain ⟨now, T, L, hp, hr, hnow, hat⟩ := HK.out
        have P0 := (show Hid _ from hp.box b0 wr.heap.size (Nat.le_refl _) z0)
        have R0 := (show Hid _ from hr)
        have N0 := (show Hid _ from hnow)
        have A0 := (show Hid _ from hat)
        have HB0 : Hid (Below w.heap.size w W0) := HK.out.bel.trans (b0.mono HK.out.bel.size)
        rw [← hW0]
        obtain ⟨bo, hbo⟩ : ∃ bo, bo = wr.heap.size := ⟨_, rfl⟩
        rw [← hbo] at q0 z0 P0
        rw [← hbo]
        clear hp hr hnow hat b0 hW0 hbo HK hld
        obtain ⟨sk, hsk⟩ : ∃ sk, sk = ((decide (300 < s.size) && decide (s.size ≤ 2000)) || decide (3000 < s.size)) := ⟨_, rfl⟩
        have HSK := (show Hid _ from hsk)
        clear hsk
        go_cut [54] from 39 to 54 (fun c wx => c = .bool sk ∧ wx = W0)
        case first =>
          obtain ⟨n, hn⟩ : ∃ n, s.size = n := ⟨_, rfl⟩
          have HS2 := HSK.out
          rw [hn] at HS2 ws
          have HS3 := (show Hid _ from HS2)
          clear HS2
          by_cases n3 : 300 < n
          · have d0 : decide (300 < (n : Int)) = true := by simp; omega
            by_cases n2 : n ≤ 2000
            · have d1 : decide ((n : Int) ≤ 2000) = true := by simp; omega
              go_wp2_with fail
              go_meet
              exact ⟨by rw [HS3.out]; simp [n3, n2], rfl⟩
            · have d1 : decide ((n : Int) ≤ 2000) = false := by simp; omega
              go_wp2_with fail
              go_meet
              refine ⟨?_, rfl⟩
              rw [HS3.out]
              congr 1
              simp [n3, n2] <;> omega
          · have d0 : decide (300 < (n : Int)) = false := by simp; omega
            go_wp2_with fail
            go_meet
            refine ⟨?_, rfl⟩
            rw [HS3.out]
            congr 1
            simp [n3] <;> omega
        case rest =>
          obtain ⟨rfl, hw⟩ := hcut
          have hw' := hw.symm
          subst hw'
          cases sk
          rotate_left 1
          · go_wp2_with fail
            refine (awake_any _).mono ?_
            rintro r w3 ⟨rfl, hb3⟩
            have HB3 : Hid (Below w.heap.size w w3) := HB0.out.trans (hb3.mono HB0.out.size)
            clear hb3
            go_wp2
            go_ret
            exact ⟨rfl, HB3.out⟩
          · have hs3 : s.size ≤ 3000 := by
              have h1 := HSK.out.symm
              rw [Bool.or_eq_false_iff, decide_eq_false_iff_not] at h1
              omega
            have hpl := fun w' => place_any kd 8 w' (by omega) (by omega)
            obtain ⟨q, hq⟩ : ∃ q, q = kd % 8 := ⟨_, rfl⟩
            have hq8 : 0 ≤ q ∧ q < 8 := by omega
            rw [← hq] at hpl
            clear hq ws HSK
            go_upto_block 2 with (refine (hpl _).mono ?_; rintro r w' ⟨rfl, rfl⟩)
            clear hpl
            go_cut [11, 12, 13, 14, 15, 16] from 59 to 109 (fun _ _ _ _ _ _ wx => Hid (St w wx tb rt m tk (k + 1)))
            case first =>
              by_cases q6 : q = 6
              · subst q6
                obtain ⟨n, hn⟩ : ∃ n, n = max 0 (min n0 100000) := ⟨_, rfl⟩
                have hn2 : 0 ≤ n ∧ n ≤ 100000 := by omega
                obtain ⟨L2, hL2⟩ : ∃ L2, L2 = L.filter (aliveR (now + n) tk) := ⟨_, rfl⟩
                obtain ⟨D, hD⟩ : ∃ D, D = (L.length : Int) - (L2.length : Int) := ⟨_, rfl⟩
                have h1 := fun (w' : World) (h : Pair w w' (fun b => False ∨ b = bo) tb rt m tk now T L) => pair_tick h R0.out n0 n hn
                have h2 := fun (w' : World) (T' : Tbl) (h : Pair w w' (fun b => False ∨ b = bo) tb rt m tk now T' L) => pair_tickR h ⟨N0.out.1, by have := N0.out.2; omega⟩ (fun x hx => ⟨A0.out x hx, by
                  have hx1 := A0.out x hx
                  have hnw := N0.out
                  obtain ⟨e, g1, g2⟩ := R0.out.get x.1 (List.mem_map.2 ⟨x, hx, rfl⟩)
                  obtain ⟨F, mb, blk, G, vL, t1, _⟩ := P0.out
                  cases hb : blk x.1.key with
                  | none => rw [t1.non _ hb] at g1; cases g1
                  | some B =>
                    obtain ⟨e', k1, _, _, k2, _⟩ := t1.ent _ B hb
                    rw [k1] at g1
                    cases g1
                    have := g2.age
                    omega⟩) n0 n hn
                rw [← hL2, ← hD] at h1
                rw [← hL2, ← hD] at h2
                have HC1 := (show Hid _ from h1)
                have HC2 := (show Hid _ from h2)
                have HAT : Hid (∀ x ∈ L2, 0 ≤ x.1.at_) := fun x hx => A0.out x (by rw [hL2] at hx; exact (List.mem_filter.1 hx).1)
                have dd : (D != D) = false := by simp
                clear h1 h2 hn hD hL2
                go_upto_region 17 with fail
                refine wp_region_spineN [true, true, true, false, true, true, true] [false, false, false, true, false, false, false, true] 8 (A := ?A) (fun x => x.cell? ⟨bo, 1, none⟩ = some (.int .i64 n0) ∧ bo < x.heap.size) (by kernel_rfl) (by kernel_rfl) (by rfl) ⟨q0 1, z0⟩ ?walk ?tail
                case walk =>
                  intro x hx
                  obtain ⟨xq, xz⟩ := hx
                  simp only [pickM]
                  repeat (go_big_quiet_step (fail))
                  refine wpQuiet_nil ?_
                  rfl
                case tail =>
                  simp only [pickM]
                  refine goE_call rfl 12 #[.pointer (some ⟨tb, 0, none⟩), .int .i64 n0] (fun u w' => u = .int .i64 D ∧ ∃ T', RelT T' (L2.map Prod.fst) (now + n) ∧ Pair w w' (fun b => False ∨ b = bo) tb rt m tk now T' L ∧ Same (fun b => False ∨ b = bo) W0.drew w') (by kernel_rfl) ?c1 ?n1
                  case c1 =>
                    have hp0 : Pair w W0.drew (fun b => False ∨ b = bo) tb rt m tk now T L := Pair.below P0.out (Below.refl _ _).drew
                    refine (HC1.out _ hp0).mono ?_
                    rintro r w' ⟨T', rfl, g1, g2, g3⟩
                    exact ⟨_, rfl, rfl, T', g1, g2, g3⟩
                  case n1 =>
                    rintro u w3 ⟨rfl, T', g1, g2, g3⟩
                    have c3 : w3.cell? ⟨bo, 1, none⟩ = some (.int .i64 n0) := by rw [g3.cell bo 1 (.inr rfl)]; exact q0 1
                    have z3 : bo < w3.heap.size := by obtain ⟨_, _, _, _, _, _, _, _, _, _, k6⟩ := g2; exact (k6 bo (.inr rfl)).1
                    refine ⟨⟨c3, z3⟩, ?_⟩
                    refine goE_call rfl 13 #[.pointer (some ⟨rt, 0, none⟩), .int .i64 n0] (fun u w' => u = .int .i64 D ∧ Pair w w' (fun b => False ∨ b = bo) tb rt m tk (now + n) T' L2 ∧ Same (fun b => False ∨ b = bo) w3 w') (by kernel_rfl) ?c2 ?n2
                    case c2 =>
                      refine (HC2.out _ _ g2).mono ?_
                      rintro r w' ⟨rfl, g4, g5⟩
                      exact ⟨_, rfl, rfl, g4, g5⟩
                    case n2 =>
                      rintro u w4 ⟨rfl, g4, g5⟩
                      have c4 : w4.cell? ⟨bo, 1, none⟩ = some (.int .i64 n0) := by rw [g5.cell bo 1 (.inr rfl)]; exact c3
                      have z4 : bo < w4.heap.size := by obtain ⟨_, _, _, _, _, _, _, _, _, _, k6⟩ := g4; exact (k6 bo (.inr rfl)).1
                      refine ⟨⟨c4, z4⟩, ?_⟩
                      have HF : Hid (St w w4 tb rt m tk (k + 1)) := ⟨now + n, T', L2, g4.less (fun b hb => hb.elim), g1, by have := N0.out; omega, HAT.out⟩
                      clear g1 g2 g3 g4 g5 c3 z3 c4 z4 HC1 HC2
                      unfold goE
                      simp only [List.drop_succ_cons, List.drop_zero, Act.put]
                      go_wp2_with fail
                      go_meet
                      exact HF
              · have d6 : (q == 6) = false := by simp [q6]
                by_cases q7 : q = 7
                · subst q7
                  have hfl := pair_flush P0.out
                  go_wp2_with fail
                  refine hfl.mono ?_
                  rintro r w3 ⟨rfl, g1, g2⟩
                  obtain ⟨ar, cr, c3, f3, z3⟩ := g1.rt3
                  have HF : Hid (St w (w3.setCell ⟨rt, 3, none⟩ (.slice none 0 0)) tb rt m tk (k + 1)) := ⟨now, Tbl.none, [], (pair_nil g1).1.less (fun b hb => hb.elim), RelT.none now, by have := N0.out; omega, fun x hx => absurd hx List.not_mem_nil⟩
                  clear g1 g2 hfl
                  go_wp2_with fail
                  go_meet
                  exact HF
                · have d7 : (q == 7) = false := by simp [q7]
                  have hadd := pair_add P0.out i HWI.out.2 s (by omega) HWI.out.1.2 (T.add m i s) rfl
                  obtain ⟨e1, e2, e3, e4⟩ := R0.out.add m HWI.out.2 s
                  have hat := addR_at (most := m) (now := now) (R := L.map Prod.fst) (i := i) (s := s) (fun r hr => by obtain ⟨x, hx, rfl⟩ := List.mem_map.1 hr; exact A0.out x hx) N0.out.1
                  have haddR := fun (w' : World) (T' : Tbl) (h : Pair w w' (fun b => False ∨ b = bo) tb rt m tk now T' L) => pair_addR h (fun x hx => R0.out.good x.1 (List.mem_map.2 ⟨x, hx, rfl⟩)) i s (by omega) HWI.out.1 _ rfl
                  rw [e1, e2, e3] at hadd
                  obtain ⟨an, han⟩ : ∃ an, an = T.add m i s := ⟨_, rfl⟩
                  obtain ⟨A, hA⟩ : ∃ A, A = addR m now (L.map Prod.fst) i s := ⟨_, rfl⟩
                  rw [← han, ← hA] at hadd e4
                  rw [← hA] at hat haddR
                  obtain ⟨AR, tx, dn, er⟩ := A
                  simp only at hadd hat haddR e4
                  have E4 := (show Hid _ from e4)
                  have HAT := (show Hid _ from hat)
                  have HAR := (show Hid _ from haddR)
                  have d2 : (dn != dn) = false := by simp
                  have d3 : (er != er) = false := by simp
                  clear e1 e2 e3 e4 hat haddR han hA
                  go_wp2_with fail
                  refine hadd.mono ?_
                  rintro r w3 ⟨rfl, g1, g2⟩
                  have q3 : ∀ j, w3.cell? ⟨bo, j, none⟩ = (#[.int .i64 kd, .int .i64 n0, .int .i64 i.tos, .int .i64 i.id, .bool i.more, .bool i.keep, .int .i64 i.off, .int .i64 i.ttl, .int .i64 i.proto, .int .u32 (i.src.toNat : Int), .int .u32 (i.dst.toNat : Int), .string i.opts, .string s] : Array Value)[j]? := fun j => by rw [g2.cell bo j (.inr rfl), q0 j]
                  have z3 : bo < w3.heap.size := by obtain ⟨_, _, _, _, _, _, _, _, _, _, k6⟩ := g1; exact (k6 bo (.inr rfl)).1
                  have h2 := HAR.out w3 _ g1
                  clear q0 z0 hadd g1 g2 HAR
                  go_wp2_with fail
                  refine h2.mono ?_
                  rintro r w4 ⟨rfl, L', hL, g3, g4⟩
                  have HF : Hid (St w w4 tb rt m tk (k + 1)) := ⟨now, an.T, L', g3.less (fun b hb => hb.elim), by rw [hL]; exact E4.out, by have := N0.out; omega, fun x hx => HAT.out x.1 (by rw [← hL]; exact List.mem_map.2 ⟨x, hx, rfl⟩)⟩
                  clear h2 hL g3 g4
                  go_wp2_with fail
                  go_meet
                  exact HF
            case rest =>
              obtain ⟨now2, T2, L2, hp2, hr2, hnow2, hat2⟩ := hcut.out
              have hl := fun (x : Cls wc) => pair_len (hp2.below x.bel) hr2
              have hby := fun (x : Cls wc) => pair_bytes (hp2.below x.bel) hr2
              have hbr := fun (x : Cls wc) => pair_bytesR (hp2.below x.bel)
              obtain ⟨ar, cr, c3, f3, z3⟩ := hp2.rt3
              obtain ⟨BB, hBB⟩ : ∃ BB, BB = ((bytesR L2 : Nat) : Int) := ⟨_, rfl⟩
              rw [← hBB] at hby hbr
              obtain ⟨NN, hNN⟩ : ∃ NN, NN = L2.length := ⟨_, rfl⟩
              rw [← hNN] at hl c3
              have HN32 : NN ≤ 32 := by rw [hNN]; obtain ⟨_, _, _, _, _, _, k2, _⟩ := hp2; exact k2.few.1
              have dn : ((NN : Int) != (NN : Int)) = false := by simp
              have db : (BB != BB) = false := by simp
              have hcl := Cls.cell (w := wc)
              clear hp2 hr2 hnow2 hat2 hBB hNN q0 z0 f3
              go_upto_region 22 with fail
              refine wp_region_calm (by kernel_rfl) (by kernel_rfl) (fun hne => ?_)
              repeat (go_big_quiet_step (first | (go_at_call 17; exact calm_of_same (hl _)) | (go_at_call 18; exact calm_of (hby _)) | (go_at_call 19; exact calm_of (hbr _))))
              refine wpQuiet_nil ?_
              rintro _ ⟨x, rfl⟩
              have HF : Hid (St w x.val tb rt m tk (k + 1)) := by
                obtain ⟨now2, T2, L2, hp2, hr2, hnow2, hat2⟩ := hcut.out
                exact ⟨now2, T2, L2, hp2.below x.bel, hr2, hnow2, hat2⟩
              clear hl hby hbr hcl
              go_wp2_with fail
              go_roundw
              case rel => exact ⟨k + 1, by omega, by omega, by go_num, HF⟩
              case measure => simp [intOf]; omega
      · obtain rfl : k = 40 := by omega
        go_wp2_with fail
        refine (awake_any _).mono ?_
        rintro r w3 ⟨rfl, hb3⟩
        have HB3 : Hid (Below w.heap.size w w3) := HK.out.bel.trans (hb3.mono HK.out.bel.size)
        clear hb3
        go_wp2
        go_ret
        exact ⟨rfl, HB3.out⟩
    · obtain rfl : k = len := by omega
      go_wp2_with fail
      refine (awake_any _).mono ?_
      rintro r w3 ⟨rfl, hb3⟩
      have HB3 : Hid (Below w.heap.size w w3) := HK.out.bel.trans (hb3.mono HK.out.bel.size)
      clear hb3
      go_wp2
      go_ret
      exact ⟨rfl, HB3.out⟩
/-! ### THE ROW's STEP -/
set_option maxRecDepth 100000 in
theorem lifted (os : Os) (started : os.Started) (H : Type) (enc : TypeId × Value → H) :
    ReturnsInHanded {} Try.checked os 3 .any (Rows.defragPlaysSpec.pre6 enc Try.prog Try.f3 Rows.defragPlaysRow.domain false) (Rows.defragPlaysSpec.post enc Try.prog Try.f3 false true false false) := by
  refine returnsInHanded_of_change (C := Try.checked) own started (by kernel_rfl) Try.func3
    (ChangeSpec.witness6 (enc := enc) (C := Try.checked) false ⟨#[], #[.int .i64 0, .int .i64 0, .slice none 0 0], []⟩ 8 (by kernel_rfl) (by kernel_rfl) (by kernel_rfl) (by kernel_rfl)) ?_
  intro W base args ds gs before hval0 hW hcnd _
  have hval : ∀ (j : Nat) t v, Try.f3.params[j]? = some t → args[j]? = some v → Value.okWide Try.prog W .any base t v := hval0
  have hW' := hW
  obtain ⟨p, q, hA0, hV, rfl, hfz, hnd⟩ := hW
  have hA : DataW.TrodAll enc Try.prog W 0 (fun _ => true) true Try.f3.params.toList args.toList ds p := hA0
  have hB := fun (W' : World) (bel : Below W.heap.size W W') => below_trodAll_of laidOut bel _ (by kernel_rfl) hA
  rw [Try.params3] at hA hval
  obtain ⟨v0, vs0, d0, ds0, p0, q0, hargs, rfl, rfl, h0, r0⟩ := trodAll_cons hA
  obtain ⟨v1, vs1, d1, ds1, p1, q1, rfl, rfl, rfl, h1, r1⟩ := trodAll_cons r0
  obtain ⟨v2, vs2, d2, ds2, p2, q2, rfl, rfl, rfl, h2, r2⟩ := trodAll_cons r1
  obtain ⟨rfl, rfl, rfl⟩ := trodAll_nil r2
  obtain rfl : args = #[v0, v1, v2] := by cases args; simp_all
  obtain ⟨rfl, rfl⟩ := trodVars_none hV
  obtain ⟨a0, rfl, rfl, rfl, w0⟩ := open_int Try.underlying3 (hval 0 3 v0 rfl rfl) h0
  obtain ⟨a1, rfl, rfl, rfl, w1⟩ := open_int Try.underlying3 (hval 1 3 v1 rfl rfl) h1
  obtain ⟨a2, len2, cap2, rfl⟩ := okWide_slice Try.underlying22 (hval 2 22 v2 rfl rfl)
  obtain ⟨fuel2, hf2⟩ := h2
  have w2 := open_ops hf2
  clear hA0 hval0
  refine (walk a0 w0 a1 w1 a2 len2 cap2 W w2).mono fun e W' ⟨he, bel⟩ => ?_
  subst he
  exact ⟨_, rfl, _, _, _, [], _, [], hW', trodAll_mk1 (shut_bool Try.underlying4 _), hB W' bel, rfl, bel.frame _, fun h => by cases h⟩

theorem over : Rows.defragPlaysRow.holds Try.pinned (OpenSpec.ofChange Rows.defragPlaysSpec) :=
  OpenClaim.holds_of_wide 3 Try.f3 rfl rfl rfl rfl rfl rfl rfl ⟨rfl, rfl, rfl, rfl, rfl⟩ rfl rfl rfl rfl rfl (by kernel_rfl) Try.func3 (by kernel_rfl)
    (of_decide_eq_true (by kernel_rfl)) (by unfold Func.isWrapper; first | (rw [if_pos (by decide +kernel)]; kernel_rfl) | (rw [if_neg (by decide +kernel)]; exact ⟨rfl, rfl⟩))
    (fun os started H enc _ => lifted os started H enc)

/-- THE STATEMENT -/
theorem proved : Rows.DefragPlaysSaid := over
#print axioms proved
end Go.Proofs.Ytkfgapljphhmcaa.defragPlays
