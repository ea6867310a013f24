/- The program's posting of a posting more. -/
import Derived.Test.YtandlmnbnjkklaaGreatDoorLgQ6
namespace Go.Proofs.YtandlmnbnjkklaaGreatDoor
open Go.RowKit Go.BigFrame

/-- what Post reads while it works -/
structure PSt (w : World) (a : Option Addr) (l : List Lg.Ps) (id : Int) (pa : Option Addr) (q pc : Nat) (ls : List Lg.Ln) (W : World) : Prop where
  b : Below w.heap.size w W
  c0 : W.cell? ⟨w.heap.size, 0, none⟩ = some (.int .i64 id)
  c1 : W.cell? ⟨w.heap.size, 1, none⟩ = some (.slice pa q pc)
  lt : w.heap.size < W.heap.size
  g : RowG W a l
  p : RowL W pa ls
theorem PSt.new {w : World} {a : Option Addr} {l : List Lg.Ps} {id : Int} {pa : Option Addr} {q pc : Nat} {ls : List Lg.Ln} (t : TypeId) (hr : RowG w a l) (hp : RowL w pa ls) : PSt w a l id pa q pc ls (w.alloc (.cells #[.int .i64 id, .slice pa q pc] t)) :=
  ⟨below_box w _, by simp, by simp, by simp, hr.below (below_box w _), hp.below (below_box w _)⟩
theorem PSt.on {w W W' : World} {a : Option Addr} {l : List Lg.Ps} {id : Int} {pa : Option Addr} {q pc : Nat} {ls : List Lg.Ln} (h : PSt w a l id pa q pc ls W) (hb : Below W.heap.size W W') : PSt w a l id pa q pc ls W' :=
  ⟨below_on h.b (Nat.le_refl _) hb, (hb.cell (p := ⟨w.heap.size, 0, none⟩) h.lt).trans h.c0, (hb.cell (p := ⟨w.heap.size, 1, none⟩) h.lt).trans h.c1, Nat.lt_of_lt_of_le h.lt hb.size, h.g.below hb, h.p.below hb⟩
/-- a ledger that was copied is an answer -/
theorem cps_ldg {w w1 w2 : World} {r : List Lg.Ps × Int} {l : List Lg.Ps} {v : Value} {us : List Pu} {B : Nat} (h : r = (l, 0)) (hf : Fit l) (hb1 : Below w.heap.size w w1) (hb2 : Below w1.heap.size w1 w2) (ho : OwnG w2 B v us) (hc : RdAll w2 us l) :
    ldgPost w r (.returned (.tuple #[v, .int .i64 0])) w2 := by
  subst h
  obtain ⟨a, cap, rfl, h1, h2, h3⟩ := ho.row hc
  exact ⟨a, cap, rfl, h1, h2, hf, h3, below_on hb1 (Nat.le_refl _) hb2⟩
set_option maxRecDepth 100000 in
set_option maxHeartbeats 4000000 in
theorem lPost_any (l : List Lg.Ps) (a : Option Addr) (cap : Nat) (id : Int) (ls : List Lg.Ln) (pa : Option Addr) (pc : Nat) (w : World) (hl : l.length ≤ maxLen ∧ l.length ≤ cap) (_hna : a = none → l = [] ∧ cap = 0) (hf : Fit l) (hr : RowG w a l) (hpl : ls.length ≤ maxLen ∧ ls.length ≤ pc) (hpr : RowL w pa ls) :
    Calls Tryz.prog 9 #[.slice a l.length cap, .agg #[.int .i64 id, .slice pa ls.length pc]] w (ldgPost w (Lg.post l (id, ls))) := by
  have HL : Hid (l.length ≤ maxLen ∧ l.length ≤ cap) := hl
  have HF : Hid (Fit l) := hf
  have HPL : Hid (ls.length ≤ maxLen ∧ ls.length ≤ pc) := hpl
  obtain ⟨n, hn⟩ : ∃ n, l.length = n := ⟨_, rfl⟩
  obtain ⟨q, hq⟩ : ∃ q, ls.length = q := ⟨_, rfl⟩
  have HN : Hid (l.length = n) := hn
  have HQL : Hid (ls.length = q) := hq
  have P0 : Hid (PSt w a l id pa q pc ls (w.alloc (.cells #[.int .i64 id, .slice pa q pc] 34))) := PSt.new _ hr hpr
  obtain ⟨c, hc⟩ : ∃ c, Lg.chk l = c := ⟨_, rfl⟩
  have HC : Hid (Lg.chk l = c) := hc
  rw [hn, hq]
  clear hl hf hr hpl hpr hn hq hc
  by_cases c0 : c = 0
  · subst c0
    have HLO : Hid (Lg.LOk l) := (Lg.chk_ok l).1 HC.out
    have h100 : n ≤ 100 := by rw [← HN.out]; exact HLO.out.len
    obtain ⟨d, hd⟩ : ∃ d, Lg.pchk (id, ls) = d := ⟨_, rfl⟩
    have HD : Hid (Lg.pchk (id, ls) = d) := hd
    clear hd
    by_cases d0 : d = 0
    · subst d0
      have HPO : Hid (Lg.POk (id, ls)) := (Lg.pchk_ok _).1 HD.out
      rcases Lg.plc_is l id with ⟨p1, p2, -⟩ | ⟨j, ls', p1, p2, p3, -⟩
      · have HP : Hid (Lg.plc l id = -1) := p1
        have HLK : Hid (Lg.look l id = none) := p2
        clear p1 p2
        by_cases hn100 : n = 100
        · have HE : Hid (Lg.post l (id, ls) = ([], 2)) := by
            show _ = _
            unfold Lg.post
            rw [if_pos HC.out, if_pos HD.out, HLK.out]
            exact if_pos (by rw [HN.out]; exact hn100)
          have hnb : ((n : Int) == 100) = true := by simp; omega
          clear hn100
          go_enter Tryz.func9, Tryz.ntmps9
          go_wp2_with fail
          have hlc := lCheck_any l a cap _ HL.out HF.out P0.out.g
          rw [HN.out, HC.out] at hlc
          refine hlc.mono ?_
          rintro e w1 ⟨rfl, hb⟩
          have P1 : Hid (PSt w a l id pa q pc ls w1) := P0.out.on hb
          have k0 := P1.out.c0
          have k1 := P1.out.c1
          clear hb hlc
          go_wp2_with fail
          refine (checkPosting_at id ls q 0 pa pc _ HQL.out HPL.out.1 HD.out P1.out.p).mono ?_
          rintro e w2 ⟨rfl, hb⟩
          have P2 : Hid (PSt w a l id pa q pc ls w2) := P1.out.on hb
          clear hb k0 k1
          have k0 := P2.out.c0
          go_wp2_with fail
          refine (lfind_at l n _ a cap id _ HN.out (by unfold maxLen; omega) HP.out P2.out.g).mono ?_
          rintro e w3 ⟨rfl, hb⟩
          have P3 : Hid (PSt w a l id pa q pc ls w3) := P2.out.on hb
          clear hb k0
          go_wp2
          go_ret2
          exact ldgPost.bad HE.out P3.out.b
        · have HE : Hid (Lg.post l (id, ls) = (l ++ [(id, ls)], 0)) := by
            show _ = _
            unfold Lg.post
            rw [if_pos HC.out, if_pos HD.out, HLK.out]
            exact if_neg (by rw [HN.out]; exact hn100)
          have hnb : ((n : Int) == 100) = false := by simp; omega
          have h99 : n ≤ 99 := by omega
          have hq6 : q ≤ 6 := by have := HPO.out.six; rw [← HQL.out]; exact this
          have HNE : Hid (ls ≠ []) := by have := HPO.out.two; show _ ≠ _; intro e; simp [e] at this
          obtain ⟨i0, hi0, hi1, hi2, hi3⟩ := infoG
          have HI : Hid (Tryz.prog.info? 34 = some i0 ∧ i0.zero = some (.agg #[.int .i64 0, .slice none 0 0]) ∧ i0.size = 2 ∧ i0.bytes = 32) := ⟨hi0, hi1, hi2, hi3⟩
          clear hn100 hi0 hi1 hi2 hi3
          go_enter Tryz.func9, Tryz.ntmps9
          go_wp2_with fail
          have hlc := lCheck_any l a cap _ HL.out HF.out P0.out.g
          rw [HN.out, HC.out] at hlc
          refine hlc.mono ?_
          rintro e w1 ⟨rfl, hb⟩
          have P1 : Hid (PSt w a l id pa q pc ls w1) := P0.out.on hb
          have k0 := P1.out.c0
          have k1 := P1.out.c1
          clear hb hlc
          go_wp2_with fail
          refine (checkPosting_at id ls q 0 pa pc _ HQL.out HPL.out.1 HD.out P1.out.p).mono ?_
          rintro e w2 ⟨rfl, hb⟩
          have P2 : Hid (PSt w a l id pa q pc ls w2) := P1.out.on hb
          clear hb k0 k1
          have k0 := P2.out.c0
          go_wp2_with fail
          refine (lfind_at l n _ a cap id _ HN.out (by unfold maxLen; omega) HP.out P2.out.g).mono ?_
          rintro e w3 ⟨rfl, hb⟩
          have P3 : Hid (PSt w a l id pa q pc ls w3) := P2.out.on hb
          clear hb k0
          go_wp2
          refine wp_region_noPanic ?_
          have P4 : Hid (PSt w a l id pa q pc ls w3.drew) := P3.out.on (Below.refl _ _).drew
          refine ord_region (S := fun w' => w'.cell? ⟨w.heap.size, 0, none⟩ = some (.int .i64 id) ∧ w'.cell? ⟨w.heap.size, 1, none⟩ = some (.slice pa q pc)) (by kernel_rfl) ⟨P4.out.c0, P4.out.c1⟩ ?_
          intro hS0
          refine ord_take (i := 0) (d := some 39) (v := ?v0) rfl rfl (by kernel_rfl) (by kernel_rfl) (by kernel_rfl) (fun _ _ _ h => h) (by rfl) ?hy0 (by assumption) ?rest0
          case hy0 => (intro w' hSw; (try dsimp only at hSw); go_simp; try with_reducible rfl)
          case rest0 =>
          simp only [Act.put, List.setIfInBounds_toArray, List.set_cons_zero, List.set_cons_succ]
          refine ord_take (i := 2) (d := some 41) (v := ?v2) rfl rfl (by kernel_rfl) (by kernel_rfl) (by kernel_rfl) (fun _ _ _ h => h) (by rfl) ?hy2 (by assumption) ?rest2
          case hy2 => (intro w' hSw; (try dsimp only at hSw); go_simp; try with_reducible rfl)
          case rest2 =>
          simp only [Act.put, List.setIfInBounds_toArray, List.set_cons_zero, List.set_cons_succ]
          refine ord_only (i := 1) rfl (by kernel_rfl) (by rfl) ?_
          refine ord_call (d := some 40) (f := 33) (args := #[.slice a n cap]) rfl (by go_simp; try with_reducible rfl) (R := cpsPost w3.drew l) ?hcall1 ?_
          case hcall1 =>
            have hcl := copied_any l a cap w3.drew (by rw [HN.out]; exact h100) HLO.out.each P4.out.g
            rw [HN.out] at hcl
            exact hcl
          rintro e w4 ⟨v, us, rfl, ho4, hc4, hb4⟩
          have P5 : Hid (PSt w a l id pa q pc ls w4) := P4.out.on hb4
          have HO4 : Hid (OwnG w4 w3.drew.heap.size v us) := ho4
          have HC4 : Hid (CpAll w4 v us l) := hc4
          have HB4 : Hid (Below w3.drew.heap.size w3.drew w4) := hb4
          have HUL : Hid (us.length = n) := by show _ = _; rw [hc4.1, HN.out]
          clear ho4 hc4 hb4
          refine ⟨_, rfl, ⟨P5.out.c0, P5.out.c1⟩, ?_⟩
          (try simp only [Act.put]); (repeat first | simp only [List.setIfInBounds_toArray] | simp only [List.set_cons_zero] | simp only [List.set_cons_succ])
          refine ord_only (i := 3) rfl (by kernel_rfl) (by rfl) ?_
          refine ord_call (d := some 42) (f := 34) (args := #[.agg #[.int .i64 id, .slice pa q pc]]) rfl (by go_simp; try with_reducible rfl) (R := cpPost w4 id ls q) ?hcall2 ?_
          case hcall2 => exact copyOf_any id ls q pa pc w4 HQL.out hq6 HNE.out P5.out.p
          rintro e w5 ⟨g, gc, rfl, hgc, hg1, hg2, hgr, hb5⟩
          have P6 : Hid (PSt w a l id pa q pc ls w5) := P5.out.on hb5
          refine ⟨_, rfl, ⟨P6.out.c0, P6.out.c1⟩, ?_⟩
          (try simp only [Act.put]); (repeat first | simp only [List.setIfInBounds_toArray] | simp only [List.set_cons_zero] | simp only [List.set_cons_succ])
          refine ord_only (i := 4) rfl (by kernel_rfl) (by rfl) ?_
          refine ord_value (d := some 43) (v := .slice (some ⟨w5.heap.size, 0, none⟩) 1 1) (w' := w5.alloc (.cells #[.int .i64 id, .slice (some ⟨g, 0, none⟩) q gc] 34)) rfl (by go_simp; try with_reducible rfl) ?_
          have P7 : Hid (PSt w a l id pa q pc ls (w5.alloc (.cells #[.int .i64 id, .slice (some ⟨g, 0, none⟩) q gc] 34))) := P6.out.on (below_box _ _)
          refine ⟨⟨P7.out.c0, P7.out.c1⟩, ?_⟩
          (try simp only [Act.put]); (repeat first | simp only [List.setIfInBounds_toArray] | simp only [List.set_cons_zero] | simp only [List.set_cons_succ])
          refine ord_only (i := 5) rfl (by kernel_rfl) (by rfl) ?_
          refine wp_append_lies _ (.tmp 40) (.tmp 43) 31 rfl w3.drew.heap.size 34 i0 _ 2 32 Tryz.underlying31 HI.out.1 HI.out.2.1 HI.out.2.2.1 HI.out.2.2.2 rfl (by omega) v us.length (flatP us) (by rfl) (World.ownsRow.alloc (HO4.out.still hb5) _) ⟨w5.heap.size, 0, none⟩ 1 1 [.int .i64 id, .slice (some ⟨g, 0, none⟩) q gc] (by rfl) (by rfl) (cellL_new _ _ _ _) (by intro u hu; simp at hu; rcases hu with rfl | rfl <;> rfl) (by omega) (by unfold maxLen; have := HUL.out; omega) (by have := HUL.out; omega) (Nat.le_trans HB4.out.size (Nat.le_trans hb5.size (by simp))) _ rfl ?_
          intro g1 k1 w6 hown hgrow hat _
          have hat' : Value.ownBlock (.slice (some ⟨g1, 0, none⟩) (us.length + 1) k1) = v.ownBlock ∨ Value.ownBlock (.slice (some ⟨g1, 0, none⟩) (us.length + 1) k1) = some (w5.heap.size + 1) := by
            rcases hat with hat | hat
            · exact .inl hat.symm
            · exact .inr (by rw [hat, World.size_alloc]; rfl)
          have hkeep : w6.cell? ⟨w.heap.size, 0, none⟩ = some (.int .i64 id) ∧ w6.cell? ⟨w.heap.size, 1, none⟩ = some (.slice pa q pc) := by
            have hne : v.ownBlock ≠ some w.heap.size := fun e => by have := (World.ownsRow.lt HO4.out _ e).1; have := P4.out.lt; omega
            exact ⟨hgrow.cell P7.out.c0 (fun e => hne e.symm), hgrow.cell P7.out.c1 (fun e => hne e.symm)⟩
          obtain ⟨us', hul, ho', hc', hb'⟩ := CpAll.step HQL.out (below_on HB4.out (Nat.le_refl _) hb5) (HO4.out.still hb5) (HC4.out.below hb5) (fun j hj => (World.ownsRow.lt HO4.out j hj).2) hg1 hg2 hgc hgr hown hgrow hat'
          have HG : Hid (ldgPost w (Lg.post l (id, ls)) (.returned (.tuple #[.slice (some ⟨g1, 0, none⟩) (us.length + 1) k1, .int .i64 0])) w6) := cps_ldg HE.out (HF.out.snoc HPL.out.1) P4.out.b hb' ho' hc'.rd
          clear hown hgrow hat hat' ho' hc' hb' hgr hul
          refine ⟨hkeep, ?_⟩
          change wpAnyH _ _ _ _ _ _ _ (Act.put _ (some 44) _) _
          (try simp only [Act.put]); (repeat first | simp only [List.setIfInBounds_toArray] | simp only [List.set_cons_zero] | simp only [List.set_cons_succ])
          refine ord_only (i := 6) rfl (by kernel_rfl) (by rfl) ?_
          refine ord_value (d := some 4) (v := .slice (some ⟨g1, 0, none⟩) (us.length + 1) k1) (w' := w6) rfl (by go_simp; try with_reducible rfl) ?_
          refine ⟨hkeep, ?_⟩
          (try simp only [Act.put]); (repeat first | simp only [List.setIfInBounds_toArray] | simp only [List.set_cons_zero] | simp only [List.set_cons_succ])
          refine ord_only (i := 7) rfl (by kernel_rfl) (by rfl) ?_
          refine ord_value (d := some 5) (v := .int .i64 0) (w' := w6) rfl (by go_simp; try with_reducible rfl) ?_
          refine ⟨hkeep, ?_⟩
          (try simp only [Act.put]); (repeat first | simp only [List.setIfInBounds_toArray] | simp only [List.set_cons_zero] | simp only [List.set_cons_succ])
          refine wpAnyH_done (by kernel_rfl) ?_ _
          refine NoPanic.normal ?_
          go_wp2
          go_ret2
          exact HG.out
      · have HP : Hid (Lg.plc l id = (j : Int)) := p1
        have HX : Hid (l[j]? = some (id, ls')) := p2
        have HLK : Hid (Lg.look l id = some (id, ls')) := p3
        have hjn : j < n := by
          rcases Nat.lt_or_ge j l.length with c | c
          · rw [← HN.out]; exact c
          · rw [List.getElem?_eq_none c] at p2; cases p2
        have HLF : Hid (ls'.length ≤ maxLen) := HF.out.at p2
        clear p1 p2 p3
        have hjb : ((j : Int) < 0) = False := by simp
        have hjl : (j : Int) < (n : Int) := by omega
        by_cases hls : ls' = ls
        · have HE : Hid (Lg.post l (id, ls) = (l, 0)) := by
            show _ = _
            unfold Lg.post
            rw [if_pos HC.out, if_pos HD.out, HLK.out]
            exact if_pos hls
          have HEQ : Hid (decide (ls' = ls) = true) := decide_eq_true hls
          clear hls
          go_enter Tryz.func9, Tryz.ntmps9
          go_wp2_with fail
          have hlc := lCheck_any l a cap _ HL.out HF.out P0.out.g
          rw [HN.out, HC.out] at hlc
          refine hlc.mono ?_
          rintro e w1 ⟨rfl, hb⟩
          have P1 : Hid (PSt w a l id pa q pc ls w1) := P0.out.on hb
          have k0 := P1.out.c0
          have k1 := P1.out.c1
          clear hb hlc
          go_wp2_with fail
          refine (checkPosting_at id ls q 0 pa pc _ HQL.out HPL.out.1 HD.out P1.out.p).mono ?_
          rintro e w2 ⟨rfl, hb⟩
          have P2 : Hid (PSt w a l id pa q pc ls w2) := P1.out.on hb
          clear hb k0 k1
          have k0 := P2.out.c0
          go_wp2_with fail
          refine (lfind_at l n _ a cap id _ HN.out (by unfold maxLen; omega) HP.out P2.out.g).mono ?_
          rintro e w3 ⟨rfl, hb⟩
          have P3 : Hid (PSt w a l id pa q pc ls w3) := P2.out.on hb
          clear hb k0
          obtain ⟨b, off, id2, ls2, la, lc, hab, hbs, hx2, c1, c2, -, hrl⟩ := P3.out.g.at (k := j) (by rw [HN.out]; exact hjn)
          obtain ⟨rfl, rfl⟩ : id = id2 ∧ ls' = ls2 := by have := HX.out.symm.trans hx2; simpa using this
          subst hab
          have e2 := fun d os => cell_regrown c2 d os
          have e4 := fun d os => cell_regrown P3.out.c1 d os
          have HRL : Hid (RowL w3 la ls') := hrl
          have HSC : Hid (∀ W, Below w3.heap.size w3 W → Calls Tryz.prog 32 #[.slice la ls'.length lc, .slice pa q pc] W fun e w' => e = .returned (.bool true) ∧ Below W.heap.size W w') := fun W hb => lEqual_below ls' ls la pa _ _ lc pc true W rfl HQL.out HLF.out HPL.out.1 HEQ.out (HRL.out.below hb) (P3.out.p.below hb)
          clear hx2 hrl hbs
          go_wp2
          refine wp_region_quiet_below (by kernel_rfl) (by kernel_rfl) ?_
          repeat go_big_quiet_step (first | (go_at_call 32; exact Calls.regrown_of (HSC.out _ (below_regrown _ _ _))))
          refine wpQuiet_nil ?_
          intro _ hw'
          obtain ⟨⟨dq2, osq2⟩, hw''⟩ := hw'
          subst hw''
          have P4 : Hid (PSt w (some ⟨b, off, none⟩) l id pa q pc ls (Go.Sort.grow (redrawn w3 dq2) osq2)) := P3.out.on (below_regrown _ _ _)
          clear e2 e4 c1 c2
          generalize Go.Sort.grow (redrawn w3 dq2) osq2 = w4 at *
          have hcp := copied_any l (some ⟨b, off, none⟩) cap w4 (by rw [HN.out]; exact h100) HLO.out.each P4.out.g
          rw [HN.out] at hcp
          go_wp2_with fail
          refine hcp.mono ?_
          rintro e w5 ⟨v, us, rfl, ho5, hc5, hb5⟩
          have HG : Hid (ldgPost w (Lg.post l (id, ls)) (.returned (.tuple #[v, .int .i64 0])) w5) := cps_ldg HE.out HF.out P4.out.b hb5 ho5 hc5.rd
          clear ho5 hc5 hb5
          go_wp2
          go_ret2
          exact HG.out
        · have HE : Hid (Lg.post l (id, ls) = ([], 6)) := by
            show _ = _
            unfold Lg.post
            rw [if_pos HC.out, if_pos HD.out, HLK.out]
            exact if_neg hls
          have HEQ : Hid (decide (ls' = ls) = false) := decide_eq_false hls
          clear hls
          go_enter Tryz.func9, Tryz.ntmps9
          go_wp2_with fail
          have hlc := lCheck_any l a cap _ HL.out HF.out P0.out.g
          rw [HN.out, HC.out] at hlc
          refine hlc.mono ?_
          rintro e w1 ⟨rfl, hb⟩
          have P1 : Hid (PSt w a l id pa q pc ls w1) := P0.out.on hb
          have k0 := P1.out.c0
          have k1 := P1.out.c1
          clear hb hlc
          go_wp2_with fail
          refine (checkPosting_at id ls q 0 pa pc _ HQL.out HPL.out.1 HD.out P1.out.p).mono ?_
          rintro e w2 ⟨rfl, hb⟩
          have P2 : Hid (PSt w a l id pa q pc ls w2) := P1.out.on hb
          clear hb k0 k1
          have k0 := P2.out.c0
          go_wp2_with fail
          refine (lfind_at l n _ a cap id _ HN.out (by unfold maxLen; omega) HP.out P2.out.g).mono ?_
          rintro e w3 ⟨rfl, hb⟩
          have P3 : Hid (PSt w a l id pa q pc ls w3) := P2.out.on hb
          clear hb k0
          obtain ⟨b, off, id2, ls2, la, lc, hab, hbs, hx2, c1, c2, -, hrl⟩ := P3.out.g.at (k := j) (by rw [HN.out]; exact hjn)
          obtain ⟨rfl, rfl⟩ : id = id2 ∧ ls' = ls2 := by have := HX.out.symm.trans hx2; simpa using this
          subst hab
          have e2 := fun d os => cell_regrown c2 d os
          have e4 := fun d os => cell_regrown P3.out.c1 d os
          have HRL : Hid (RowL w3 la ls') := hrl
          have HSC : Hid (∀ W, Below w3.heap.size w3 W → Calls Tryz.prog 32 #[.slice la ls'.length lc, .slice pa q pc] W fun e w' => e = .returned (.bool false) ∧ Below W.heap.size W w') := fun W hb => lEqual_below ls' ls la pa _ _ lc pc false W rfl HQL.out HLF.out HPL.out.1 HEQ.out (HRL.out.below hb) (P3.out.p.below hb)
          clear hx2 hrl hbs
          go_wp2
          refine wp_region_quiet_below (by kernel_rfl) (by kernel_rfl) ?_
          repeat go_big_quiet_step (first | (go_at_call 32; exact Calls.regrown_of (HSC.out _ (below_regrown _ _ _))))
          refine wpQuiet_nil ?_
          intro _ hw'
          obtain ⟨⟨dq2, osq2⟩, hw''⟩ := hw'
          subst hw''
          have P4 : Hid (PSt w (some ⟨b, off, none⟩) l id pa q pc ls (Go.Sort.grow (redrawn w3 dq2) osq2)) := P3.out.on (below_regrown _ _ _)
          clear e2 e4 c1 c2
          generalize Go.Sort.grow (redrawn w3 dq2) osq2 = w4 at *
          go_wp2
          go_ret2
          exact ldgPost.bad HE.out P4.out.b
    · have HE : Hid (Lg.post l (id, ls) = ([], d)) := by
        show _ = _
        unfold Lg.post
        rw [if_pos HC.out, HD.out, if_neg d0]
      have d1 : (d != 0) = true := by simpa using d0
      clear d0
      go_enter Tryz.func9, Tryz.ntmps9
      go_wp2_with fail
      have hlc := lCheck_any l a cap _ HL.out HF.out P0.out.g
      rw [HN.out, HC.out] at hlc
      refine hlc.mono ?_
      rintro e w1 ⟨rfl, hb⟩
      have P1 : Hid (PSt w a l id pa q pc ls w1) := P0.out.on hb
      have k0 := P1.out.c0
      have k1 := P1.out.c1
      clear hb hlc
      go_wp2_with fail
      refine (checkPosting_at id ls q d pa pc _ HQL.out HPL.out.1 HD.out P1.out.p).mono ?_
      rintro e w2 ⟨rfl, hb⟩
      have P2 : Hid (PSt w a l id pa q pc ls w2) := P1.out.on hb
      clear hb k0 k1
      go_wp2
      go_ret2
      exact ldgPost.bad HE.out P2.out.b
  · have HE : Hid (Lg.post l (id, ls) = ([], c)) := by
      show _ = _
      unfold Lg.post
      rw [HC.out, if_neg c0]
    have c1 : (c != 0) = true := by simpa using c0
    clear c0
    go_enter Tryz.func9, Tryz.ntmps9
    go_wp2_with fail
    have hlc := lCheck_any l a cap _ HL.out HF.out P0.out.g
    rw [HN.out, HC.out] at hlc
    refine hlc.mono ?_
    rintro e w1 ⟨rfl, hb⟩
    have P1 : Hid (PSt w a l id pa q pc ls w1) := P0.out.on hb
    clear hb hlc
    go_wp2
    go_ret2
    exact ldgPost.bad HE.out P1.out.b
end Go.Proofs.YtandlmnbnjkklaaGreatDoor
