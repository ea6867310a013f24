/- The document's words on ledgers: a posting more; one turned round. -/
import Derived.Test.YtdebhcdmbijanaaLgW4
import Derived.Test.YtdebhcdmbijanaaAp2
namespace Go.Proofs.Ytdebhcdmbijanaa
open Go.RowKit Go.BigFrame

theorem infoG : ∃ i : TypeInfo, Try.prog.info? 25 = some i ∧ i.zero = some (.agg #[.int .i64 0, .slice none 0 0]) ∧ i.size = 2 ∧ i.bytes = 32 := by
  have h := infoPs
  cases hq : Try.prog.info? 25 with
  | none => simp [hq] at h
  | some i => simp [hq] at h; exact ⟨i, rfl, h.1, h.2.1, h.2.2⟩
theorem RowG.news {w : World} {a : Option Addr} {l : List Lg.Ps} (h : RowG w a l) : ∃ us, RdAll w us l ∧ ∀ W, Below w.heap.size w W → ∀ ad, a = some ad → ∀ (j : Nat) (u : Value), (flatP us)[j]? = some u → W.cell? (ad.add j) = some u := by
  obtain ⟨us, h1, h2⟩ := h
  refine ⟨us, h1, fun W hW ad had j u hj => ?_⟩
  rcases h2 with rfl | ⟨b, off, e, hlt, hc⟩
  · have : us = [] := List.eq_nil_of_length_eq_zero h1.1
    subst this
    simp [flatP] at hj
  · obtain rfl := Option.some.inj (had.symm.trans e)
    have := (hW.cell (p := ⟨b, off + j, none⟩) hlt).trans (hc j u hj)
    cases j with
    | zero => exact this
    | succ j => simpa [Addr.add] using this
/-- behind both appends -/
theorem post_end {w0 w5 : World} {us : List Pu} {l : List Lg.Ps} {id : Int} {ls : List Lg.Ln} {pa : Option Addr} {q pc g2 c2 k : Nat} (hk : us.length = k) (hq : ls.length = q) (hqc : ls.length ≤ pc) (hrd : RdAll w0 us l) (hp : RowL w0 pa ls)
    (hown : w5.ownsRow w0.heap.size 25 2 (.slice (some ⟨g2, 0, none⟩) (k + 1) c2) (k + 1) (flatP us ++ [.int .i64 id, .slice pa q pc])) (hb : Below w0.heap.size w0 w5) :
    (l ++ [(id, ls)]).length = k + 1 ∧ k + 1 ≤ c2 ∧ RowG w5 (some ⟨g2, 0, none⟩) (l ++ [(id, ls)]) := by
  subst hk hq
  have ho : OwnG w5 w0.heap.size (.slice (some ⟨g2, 0, none⟩) (us.length + 1) c2) (us ++ [(id, .slice pa ls.length pc)]) := by
    unfold OwnG; rw [flatP_append, List.length_append]; exact hown
  have hr : RdAll w5 (us ++ [(id, .slice pa ls.length pc)]) (l ++ [(id, ls)]) := (hrd.below hb).snoc ⟨rfl, pa, pc, rfl, hqc, hp.below hb⟩
  obtain ⟨a, cap, e, h1, _, h2⟩ := ho.row hr
  have hlen : (l ++ [(id, ls)]).length = us.length + 1 := by rw [List.length_append, ← hrd.1]; rfl
  rw [hlen] at e h1
  cases e
  exact ⟨hlen, h1, h2⟩
theorem Fit.snoc {l : List Lg.Ps} (h : Fit l) {p : Lg.Ps} (hp : p.2.length ≤ maxLen) : Fit (l ++ [p]) := by
  intro q hq
  rcases List.mem_append.1 hq with hq | hq
  · exact h q hq
  · rw [List.mem_singleton] at hq; subst hq; exact hp
/-- what a ledger is answered as: it lies there -/
def ldgPost (w : World) (r : List Lg.Ps × Int) (e : Ending) (w' : World) : Prop := ∃ a cap, e = .returned (.tuple #[.slice a r.1.length cap, .int .i64 r.2]) ∧ r.1.length ≤ cap ∧ (a = none → r.1 = [] ∧ cap = 0) ∧ Fit r.1 ∧ RowG w' a r.1 ∧ Below w.heap.size w w'
theorem ldgPost.bad {w w' : World} {r : List Lg.Ps × Int} {c : Int} (h : r = ([], c)) (hb : Below w.heap.size w w') : ldgPost w r (.returned (.tuple #[.slice none 0 0, .int .i64 c])) w' := by
  subst h
  exact ⟨none, 0, rfl, Nat.le_refl _, fun _ => ⟨rfl, rfl⟩, fun p hp => (by cases hp), RowG.nil _ _, hb⟩
/-- the first of an id, looked for -/
def noId (l : List Lg.Ps) (id : Int) (k : Nat) : Prop := ∀ (j : Nat) (p : Lg.Ps), j < k → l[j]? = some p → p.1 ≠ id
theorem noId.look {l : List Lg.Ps} {id : Int} {k : Nat} (h : noId l id k) {p : Lg.Ps} (hk : l[k]? = some p) (hp : p.1 = id) : Lg.look l id = some p := by
  unfold Lg.look
  rw [List.find?_eq_some_iff_getElem]
  have hlt : k < l.length := by
    rcases Nat.lt_or_ge k l.length with c | c
    · exact c
    · rw [List.getElem?_eq_none c] at hk; cases hk
  refine ⟨decide_eq_true hp, k, hlt, by rw [List.getElem?_eq_getElem hlt] at hk; exact Option.some.inj hk, fun j hj => ?_⟩
  have := h j _ hj (List.getElem?_eq_getElem (by omega))
  simpa using this
theorem noId.none {l : List Lg.Ps} {id : Int} {k : Nat} (h : noId l id k) (hk : l.length ≤ k) : Lg.look l id = none := by
  unfold Lg.look
  rw [List.find?_eq_none]
  intro p hp
  obtain ⟨j, hj, rfl⟩ := List.mem_iff_getElem.1 hp
  have := h j _ (by omega) (List.getElem?_eq_getElem hj)
  simpa using this
theorem noId.next {l : List Lg.Ps} {id : Int} {k : Nat} (h : noId l id k) {p : Lg.Ps} (hk : l[k]? = some p) (hp : p.1 ≠ id) : noId l id (k + 1) := by
  intro j q hj hq
  rcases Nat.lt_or_ge j k with c | c
  · exact h j q c hq
  · obtain rfl : j = k := by omega
    obtain rfl := Option.some.inj (hk.symm.trans hq)
    exact hp
set_option maxRecDepth 100000 in
set_option maxHeartbeats 4000000 in
theorem postOf_any (l : List Lg.Ps) (a : Option Addr) (cap : Nat) (id : Int) (ls : List Lg.Ln) (pa : Option Addr) (pc : Nat) (w : World) (hl : l.length ≤ maxLen ∧ l.length ≤ cap) (hna : a = none → l = [] ∧ cap = 0) (hf : Fit l) (hr : RowG w a l) (hpl : ls.length ≤ maxLen ∧ ls.length ≤ pc) (hpr : RowL w pa ls) :
    Calls Try.prog 12 #[.slice a l.length cap, .agg #[.int .i64 id, .slice pa ls.length pc]] w (ldgPost w (Lg.post l (id, ls))) := by
  have HL : Hid (l.length ≤ maxLen ∧ l.length ≤ cap) := hl
  have HF : Hid (Fit l) := hf
  have HPL : Hid (ls.length ≤ maxLen ∧ ls.length ≤ pc) := hpl
  have HNA0 : Hid (a = none → l = [] ∧ cap = 0) := hna
  obtain ⟨n, hn⟩ : ∃ n, l.length = n := ⟨_, rfl⟩
  obtain ⟨q, hq⟩ : ∃ q, ls.length = q := ⟨_, rfl⟩
  have HN : Hid (l.length = n) := hn
  have HQL : Hid (ls.length = q) := hq
  have B0 : Hid (Below w.heap.size w (w.alloc (.cells #[.int .i64 id, .slice pa q pc] 25))) := below_box w _
  have R0 : Hid (RowG (w.alloc (.cells #[.int .i64 id, .slice pa q pc] 25)) a l) := hr.below B0.out
  have P0 : Hid (RowL (w.alloc (.cells #[.int .i64 id, .slice pa q pc] 25)) pa ls) := hpr.below B0.out
  have C0 : Hid ((w.alloc (.cells #[.int .i64 id, .slice pa q pc] 25)).cell? ⟨w.heap.size, 0, none⟩ = some (.int .i64 id) ∧ (w.alloc (.cells #[.int .i64 id, .slice pa q pc] 25)).cell? ⟨w.heap.size, 1, none⟩ = some (.slice pa q pc)) := ⟨by simp, by simp⟩
  have Z0 : Hid (w.heap.size < (w.alloc (.cells #[.int .i64 id, .slice pa q pc] 25)).heap.size) := by show _ < _; simp
  obtain ⟨c, hc⟩ : ∃ c, Lg.chk l = c := ⟨_, rfl⟩
  have HC : Hid (Lg.chk l = c) := hc
  rw [hn, hq]
  clear hl hna hf hr hpl hpr hn hq hc
  by_cases c0 : c = 0
  · subst c0
    have HLO : Hid (Lg.LOk l) := (Lg.chk_ok l).1 HC.out
    have h100 : n ≤ 100 := by rw [← HN.out]; exact HLO.out.len
    obtain ⟨d, hd⟩ : ∃ d, Lg.pchk (id, ls) = d := ⟨_, rfl⟩
    have HD : Hid (Lg.pchk (id, ls) = d) := hd
    clear hd
    by_cases d0 : d = 0
    · subst d0
      go_enter Try.func12, Try.ntmps12
      go_wp2_with fail
      have hlc := ledgerCheck_any l a cap _ HL.out.1 HF.out R0.out
      rw [HN.out, HC.out] at hlc
      refine hlc.mono ?_
      rintro e w1 ⟨rfl, hb⟩
      have B1 : Hid (Below w.heap.size w w1) := below_on B0.out (Nat.le_refl _) hb
      have R1 : Hid (RowG w1 a l) := R0.out.below hb
      have P1 : Hid (RowL w1 pa ls) := P0.out.below hb
      have C1 : Hid (w1.cell? ⟨w.heap.size, 0, none⟩ = some (.int .i64 id) ∧ w1.cell? ⟨w.heap.size, 1, none⟩ = some (.slice pa q pc)) := ap_keep C0.out Z0.out hb
      have Z1 : Hid (w.heap.size < w1.heap.size) := Nat.lt_of_lt_of_le Z0.out hb.size
      have k0 := C1.out.1
      have k1 := C1.out.2
      clear hb hlc
      go_wp2_with fail
      refine (postingCheck_at id ls pa q pc 0 _ HQL.out HPL.out.1 HD.out P1.out).mono ?_
      rintro e w2 ⟨rfl, hb⟩
      have B2 : Hid (Below w.heap.size w w2) := below_on B1.out (Nat.le_refl _) hb
      have R2 : Hid (RowG w2 a l) := R1.out.below hb
      have P2 : Hid (RowL w2 pa ls) := P1.out.below hb
      have C2 : Hid (w2.cell? ⟨w.heap.size, 0, none⟩ = some (.int .i64 id) ∧ w2.cell? ⟨w.heap.size, 1, none⟩ = some (.slice pa q pc)) := ap_keep C1.out Z1.out hb
      have Z2 : Hid (w.heap.size < w2.heap.size) := Nat.lt_of_lt_of_le Z1.out hb.size
      clear hb k0 k1
      go_wp2
      go_loopw [7] (fun iv wr => ∃ k : Nat, k ≤ n ∧ iv = .int .i64 k ∧ noId l id k ∧ Below w2.heap.size w2 wr) (fun iv _ => n - (intOf iv).toNat)
      case atStart => exact ⟨0, Nat.zero_le _, rfl, (fun j p hj => absurd hj (Nat.not_lt_zero j)), Below.refl _ _⟩
      case round =>
        obtain ⟨k, hk, rfl, hno, hb⟩ := hrel
        have HNO : Hid (noId l id k) := hno
        have HB : Hid (Below w2.heap.size w2 wr) := hb
        have HBW : Hid (Below w.heap.size w wr) := below_on B2.out (Nat.le_refl _) hb
        have HCr : Hid (wr.cell? ⟨w.heap.size, 0, none⟩ = some (.int .i64 id) ∧ wr.cell? ⟨w.heap.size, 1, none⟩ = some (.slice pa q pc)) := ap_keep C2.out Z2.out hb
        have hzr : w.heap.size < wr.heap.size := Nat.lt_of_lt_of_le Z2.out hb.size
        clear hno hb
        by_cases hlt : k < n
        · have hlt' : (k : Int) < (n : Int) := by omega
          obtain ⟨b, off, id2, ls2, la, lc, rfl, -, hx, c1, c2, -, hrl⟩ := (R2.out.below HB.out).at (k := k) (by rw [HN.out]; exact hlt)
          have HX : Hid (l[k]? = some (id2, ls2)) := hx
          have HRL : Hid (RowL wr la ls2) := hrl
          have HLF : Hid (ls2.length ≤ maxLen) := HF.out.at hx
          have k0 := HCr.out.1
          have k1 := HCr.out.2
          have e1 := fun d os => cell_regrown c1 d os
          have e2 := fun d os => cell_regrown c2 d os
          have e3 := fun d os => cell_regrown k0 d os
          have e4 := fun d os => cell_regrown k1 d os
          clear hx hrl
          by_cases hid : id2 = id
          · have hidb : (id2 == id) = true := by simpa using hid
            have HLK : Hid (Lg.look l id = some (id2, ls2)) := HNO.out.look HX.out hid
            clear hid
            go_wp2
            refine wp_region_quiet_below (by kernel_rfl) (by kernel_rfl) ?_
            repeat go_big_quiet_step (fail)
            refine wpQuiet_nil ?_
            intro _ hw'
            obtain ⟨⟨dq, osq⟩, hw''⟩ := hw'
            subst hw''
            have HG1 : Hid (Below wr.heap.size wr (Go.Sort.grow (redrawn wr dq) osq)) := below_regrown _ _ _
            have f1 := e1 dq osq
            have f2 := e2 dq osq
            have f3 := e3 dq osq
            have f4 := e4 dq osq
            generalize Go.Sort.grow (redrawn wr dq) osq = W4 at *
            clear e1 e2 e3 e4 c1 c2 k0 k1
            have e1 := fun d os => cell_regrown f1 d os
            have e2 := fun d os => cell_regrown f2 d os
            have e3 := fun d os => cell_regrown f3 d os
            have e4 := fun d os => cell_regrown f4 d os
            have HB4 : Hid (Below w.heap.size w W4) := below_on HBW.out (Nat.le_refl _) HG1.out
            have HR4 : Hid (RowG W4 (some ⟨b, off, none⟩) l) := (R2.out.below HB.out).below HG1.out
            have HL4 : Hid (RowL W4 la ls2) := HRL.out.below HG1.out
            have HP4 : Hid (RowL W4 pa ls) := (P2.out.below HB.out).below HG1.out
            by_cases hls : ls2 = ls
            · have HE : Hid (Lg.post l (id, ls) = (l, 0)) := by
                show _ = _
                unfold Lg.post
                rw [if_pos HC.out, if_pos HD.out, HLK.out]
                exact if_pos hls
              have HSC : Hid (∀ W, Below W4.heap.size W4 W → Calls Try.prog 25 #[.slice la ls2.length lc, .slice pa q pc] W fun e w' => e = .returned (.bool true) ∧ Below W.heap.size W w') := fun W hb => sameLines_below ls2 ls la pa _ _ lc pc true W rfl HQL.out HLF.out HPL.out.1 (decide_eq_true hls) (HL4.out.below hb) (HP4.out.below hb)
              clear hls
              go_wp2
              refine wp_region_quiet_below (by kernel_rfl) (by kernel_rfl) ?_
              repeat go_big_quiet_step (first | (go_at_call 25; exact Calls.regrown_of (HSC.out _ (below_regrown _ _ _))))
              refine wpQuiet_nil ?_
              intro _ hw'
              obtain ⟨⟨dq2, osq2⟩, hw''⟩ := hw'
              subst hw''
              have HG5 : Hid (Below W4.heap.size W4 (Go.Sort.grow (redrawn W4 dq2) osq2)) := below_regrown _ _ _
              generalize Go.Sort.grow (redrawn W4 dq2) osq2 = W5 at *
              clear e1 e2 e3 e4 f1 f2 f3 f4
              go_wp2
              go_ret2
              refine ⟨some ⟨b, off, none⟩, cap, ?_, ?_, (fun e => by cases e), ?_, ?_, below_on HB4.out (Nat.le_refl _) HG5.out⟩
              · rw [HE.out]; simp only [HN.out]; rfl
              · rw [HE.out]; exact HL.out.2
              · rw [HE.out]; exact HF.out
              · rw [HE.out]; exact HR4.out.below HG5.out
            · have HE : Hid (Lg.post l (id, ls) = ([], 6)) := by
                show _ = _
                unfold Lg.post
                rw [if_pos HC.out, if_pos HD.out, HLK.out]
                exact if_neg hls
              have HSC : Hid (∀ W, Below W4.heap.size W4 W → Calls Try.prog 25 #[.slice la ls2.length lc, .slice pa q pc] W fun e w' => e = .returned (.bool false) ∧ Below W.heap.size W w') := fun W hb => sameLines_below ls2 ls la pa _ _ lc pc false W rfl HQL.out HLF.out HPL.out.1 (decide_eq_false hls) (HL4.out.below hb) (HP4.out.below hb)
              clear hls
              go_wp2
              refine wp_region_quiet_below (by kernel_rfl) (by kernel_rfl) ?_
              repeat go_big_quiet_step (first | (go_at_call 25; exact Calls.regrown_of (HSC.out _ (below_regrown _ _ _))))
              refine wpQuiet_nil ?_
              intro _ hw'
              obtain ⟨⟨dq2, osq2⟩, hw''⟩ := hw'
              subst hw''
              have HG5 : Hid (Below W4.heap.size W4 (Go.Sort.grow (redrawn W4 dq2) osq2)) := below_regrown _ _ _
              generalize Go.Sort.grow (redrawn W4 dq2) osq2 = W5 at *
              clear e1 e2 e3 e4 f1 f2 f3 f4
              go_wp2
              go_ret2
              exact ldgPost.bad HE.out (below_on HB4.out (Nat.le_refl _) HG5.out)
          · have hidb : (id2 == id) = false := by simpa using hid
            have HNX : Hid (noId l id (k + 1)) := HNO.out.next HX.out hid
            clear hid
            go_wp2
            refine wp_region_quiet_below (by kernel_rfl) (by kernel_rfl) ?_
            repeat go_big_quiet_step (fail)
            refine wpQuiet_nil ?_
            intro _ hw'
            obtain ⟨⟨dq, osq⟩, hw''⟩ := hw'
            subst hw''
            have HG1 : Hid (Below w2.heap.size w2 (Go.Sort.grow (redrawn wr dq) osq)) := below_on HB.out (Nat.le_refl _) (below_regrown _ _ _)
            generalize Go.Sort.grow (redrawn wr dq) osq = W4 at *
            go_wp2
            go_roundw
            case rel => exact ⟨k + 1, by omega, by go_num, HNX.out, HG1.out⟩
            case measure => simp [intOf]; omega
        · obtain rfl : k = n := by omega
          have HLK : Hid (Lg.look l id = none) := HNO.out.none (by rw [HN.out]; exact Nat.le_refl _)
          by_cases hfull : k = 100
          · have HE : Hid (Lg.post l (id, ls) = ([], 2)) := by
              show _ = _
              unfold Lg.post
              rw [if_pos HC.out, if_pos HD.out, HLK.out]
              exact if_pos (by rw [HN.out]; exact hfull)
            subst hfull
            go_wp2
            go_ret2
            exact ldgPost.bad HE.out HBW.out
          · have HE : Hid (Lg.post l (id, ls) = (l ++ [(id, ls)], 0)) := by
              show _ = _
              unfold Lg.post
              rw [if_pos HC.out, if_pos HD.out, HLK.out]
              exact if_neg (by rw [HN.out]; exact hfull)
            have hfb : ((k : Int) == 100) = false := by rw [beq_eq_false_iff_ne]; omega
            have HRr : Hid (RowG wr a l) := R2.out.below HB.out
            have HPr : Hid (RowL wr pa ls) := P2.out.below HB.out
            clear hfull
            obtain ⟨us, hus, hnw⟩ := HRr.out.news
            have HRD : Hid (RdAll wr us l) := hus
            have HNW : Hid (∀ W, Below wr.heap.size wr W → ∀ ad, a = some ad → ∀ (j : Nat) (u : Value), (flatP us)[j]? = some u → W.cell? (ad.add j) = some u) := hnw
            have HUS : Hid (us.length = k) := hus.1.trans HN.out
            have HON : Hid (∀ v ∈ flatP us, v.oneCell' = true) := hus.cells
            have HOP : Hid (∀ u ∈ [Value.int .i64 id, .slice pa q pc], u.oneCell' = true) := by intro u hu; simp at hu; rcases hu with rfl | rfl <;> rfl
            have HNA : Hid (a = none → k = 0 ∧ cap = 0) := fun e => ⟨by rw [← HN.out, (HNA0.out e).1]; rfl, (HNA0.out e).2⟩
            obtain ⟨i0, hi0, hi1, hi2, hi3⟩ := infoG
            have HI : Hid (Try.prog.info? 25 = some i0 ∧ i0.zero = some (.agg #[.int .i64 0, .slice none 0 0]) ∧ i0.size = 2 ∧ i0.bytes = 32) := ⟨hi0, hi1, hi2, hi3⟩
            have k0 := HCr.out.1
            have k1 := HCr.out.2
            clear hus hnw hi0 hi1 hi2 hi3
            go_wp2
            go_region_held3 (fun w' => w'.cell? ⟨w.heap.size, 0, none⟩ = some (.int .i64 id) ∧ w'.cell? ⟨w.heap.size, 1, none⟩ = some (.slice pa q pc)) (first | go_keep | exact ap_keep HCr.out hzr BW.out)
              (first
              | (refine step_append_any _ (by rfl) _ _ _ (by rfl) wr.heap.size 25 i0 _ 2 32 Try.underlying22 HI.out.1 HI.out.2.1 HI.out.2.2.1 HI.out.2.2.2 rfl (by omega) (.slice (some ⟨wr.heap.size, 0, none⟩) 0 0) 0 [] (by rfl) (ap_e1 wr _ _) a k cap (flatP us) (by rfl) HNA.out (by rw [flatP_len, HUS.out]) (fun ad had j u hj => HNW.out _ (below_box wr _).drew ad had j u hj) HON.out (by unfold maxLen; omega) (by omega) (by first | exact Nat.le_refl _ | omega | (simp <;> omega)) ?_; intro v1 w4 hown hgrow; have T1 := ap_one (below_box wr _).drew (by first | exact Nat.le_refl _ | omega) hown hgrow; have HO1 : Hid (w4.ownsRow wr.heap.size 25 2 v1 k (flatP us)) := T1.1; have BW : Hid (Below wr.heap.size wr w4) := T1.2;  clear T1 hown hgrow)
              | (refine step_append_any _ (by rfl) _ _ _ (by rfl) wr.heap.size 25 i0 _ 2 32 Try.underlying22 HI.out.1 HI.out.2.1 HI.out.2.2.1 HI.out.2.2.2 rfl (by omega) (.slice (some ⟨wr.heap.size, 0, none⟩) 0 0) 0 [] (by rfl) (ap_e1' wr _ _ _) a k cap (flatP us) (by rfl) HNA.out (by rw [flatP_len, HUS.out]) (fun ad had j u hj => HNW.out _ ((below_box wr _).alloc (by simp) _).drew ad had j u hj) HON.out (by unfold maxLen; omega) (by omega) (by first | exact Nat.le_refl _ | omega | (simp <;> omega)) ?_; intro v1 w4 hown hgrow; have T1 := ap_one ((below_box wr _).alloc (by simp) _).drew (by first | exact Nat.le_refl _ | omega) hown hgrow; have HO1 : Hid (w4.ownsRow wr.heap.size 25 2 v1 k (flatP us)) := T1.1; have BW : Hid (Below wr.heap.size wr w4) := T1.2; have HMB : Hid (w4.heap[wr.heap.size + 1]? = some (.cells #[.int .i64 id, .slice pa q pc] 25 (0, 0))) := ap_m2 hgrow; clear T1 hown hgrow)
              | (refine step_append_any _ (by rfl) _ _ _ (by rfl) wr.heap.size 25 i0 _ 2 32 Try.underlying22 HI.out.1 HI.out.2.1 HI.out.2.2.1 HI.out.2.2.2 rfl (by omega) (.slice (some ⟨wr.heap.size + 1, 0, none⟩) 0 0) 0 [] (by rfl) (ap_e2 wr _ _ _) a k cap (flatP us) (by rfl) HNA.out (by rw [flatP_len, HUS.out]) (fun ad had j u hj => HNW.out _ ((below_box wr _).alloc (by simp) _).drew ad had j u hj) HON.out (by unfold maxLen; omega) (by omega) (by first | exact Nat.le_refl _ | omega | (simp <;> omega)) ?_; intro v1 w4 hown hgrow; have T1 := ap_one ((below_box wr _).alloc (by simp) _).drew (by first | exact Nat.le_refl _ | omega) hown hgrow; have HO1 : Hid (w4.ownsRow wr.heap.size 25 2 v1 k (flatP us)) := T1.1; have BW : Hid (Below wr.heap.size wr w4) := T1.2; have HMB : Hid (w4.heap[wr.heap.size]? = some (.cells #[.int .i64 id, .slice pa q pc] 25 (0, 0))) := ap_m1 hgrow; clear T1 hown hgrow)
              | (refine step_append_lies _ (by rfl) _ _ _ (by rfl) wr.heap.size 25 i0 _ 2 32 Try.underlying22 HI.out.1 HI.out.2.1 HI.out.2.2.1 HI.out.2.2.2 rfl (by omega) v1 k (flatP us) (by rfl) (World.ownsRow.alloc HO1.out _) ⟨w4.heap.size, 0, none⟩ 1 1 [.int .i64 id, .slice pa q pc] (by rfl) (by rfl) (World.news_of_block (heap_alloc_new w4 _)) HOP.out (by omega) (by unfold maxLen; omega) (by omega) (by have := BW.out.size; first | exact this | (simp <;> omega)) _ rfl ?_; intro g2 c2 w5 hown hgrow hat hlt; have T2 := ap_two (BW.out.alloc BW.out.size _) (World.ownsRow.alloc HO1.out _) hown hgrow; have HO2 : Hid (w5.ownsRow wr.heap.size 25 2 (.slice (some ⟨g2, 0, none⟩) (k + 1) c2) (k + 1) (flatP us ++ [.int .i64 id, .slice pa q pc])) := T2.1; have BW : Hid (Below wr.heap.size wr w5) := T2.2; clear T2 hown hgrow hat hlt)
              | (refine step_append_lies _ (by rfl) _ _ _ (by rfl) wr.heap.size 25 i0 _ 2 32 Try.underlying22 HI.out.1 HI.out.2.1 HI.out.2.2.1 HI.out.2.2.2 rfl (by omega) v1 k (flatP us) (by rfl) HO1.out ⟨wr.heap.size + 1, 0, none⟩ 1 1 [.int .i64 id, .slice pa q pc] (by rfl) (by rfl) (World.news_of_block HMB.out) HOP.out (by omega) (by unfold maxLen; omega) (by omega) (by have := BW.out.size; first | exact this | (simp <;> omega)) _ rfl ?_; intro g2 c2 w5 hown hgrow hat hlt; have T2 := ap_two BW.out HO1.out hown hgrow; have HO2 : Hid (w5.ownsRow wr.heap.size 25 2 (.slice (some ⟨g2, 0, none⟩) (k + 1) c2) (k + 1) (flatP us ++ [.int .i64 id, .slice pa q pc])) := T2.1; have BW : Hid (Below wr.heap.size wr w5) := T2.2; clear T2 hown hgrow hat hlt)
              | (refine step_append_lies _ (by rfl) _ _ _ (by rfl) wr.heap.size 25 i0 _ 2 32 Try.underlying22 HI.out.1 HI.out.2.1 HI.out.2.2.1 HI.out.2.2.2 rfl (by omega) v1 k (flatP us) (by rfl) HO1.out ⟨wr.heap.size, 0, none⟩ 1 1 [.int .i64 id, .slice pa q pc] (by rfl) (by rfl) (World.news_of_block HMB.out) HOP.out (by omega) (by unfold maxLen; omega) (by omega) (by have := BW.out.size; first | exact this | (simp <;> omega)) _ rfl ?_; intro g2 c2 w5 hown hgrow hat hlt; have T2 := ap_two BW.out HO1.out hown hgrow; have HO2 : Hid (w5.ownsRow wr.heap.size 25 2 (.slice (some ⟨g2, 0, none⟩) (k + 1) c2) (k + 1) (flatP us ++ [.int .i64 id, .slice pa q pc])) := T2.1; have BW : Hid (Below wr.heap.size wr w5) := T2.2; clear T2 hown hgrow hat hlt))
            all_goals
              have HPE : Hid (_) := post_end HUS.out HQL.out HPL.out.2 HRD.out HPr.out HO2.out BW.out
              have HB9 : Hid (Below w.heap.size w w5) := below_on HBW.out (Nat.le_refl _) BW.out
              clear k0 k1
              go_wp2
              go_ret2
              refine ⟨some ⟨g2, 0, none⟩, c2, ?_, ?_, (fun e => by cases e), ?_, ?_, HB9.out⟩
              · rw [HE.out]; simp only [HPE.out.1]; rfl
              · rw [HE.out]; simp only [HPE.out.1]; exact HPE.out.2.1
              · rw [HE.out]; exact HF.out.snoc HPL.out.1
              · rw [HE.out]; exact HPE.out.2.2
    · have HE : Hid (Lg.post l (id, ls) = ([], d)) := by
        show _ = _
        unfold Lg.post
        rw [if_pos HC.out, HD.out, if_neg d0]
      have d1 : (d != 0) = true := by simpa using d0
      clear d0
      go_enter Try.func12, Try.ntmps12
      go_wp2_with fail
      have hlc := ledgerCheck_any l a cap _ HL.out.1 HF.out R0.out
      rw [HN.out, HC.out] at hlc
      refine hlc.mono ?_
      rintro e w1 ⟨rfl, hb⟩
      have B1 : Hid (Below w.heap.size w w1) := below_on B0.out (Nat.le_refl _) hb
      have P1 : Hid (RowL w1 pa ls) := P0.out.below hb
      have C1 : Hid (w1.cell? ⟨w.heap.size, 0, none⟩ = some (.int .i64 id) ∧ w1.cell? ⟨w.heap.size, 1, none⟩ = some (.slice pa q pc)) := ap_keep C0.out Z0.out hb
      have k0 := C1.out.1
      have k1 := C1.out.2
      clear hb hlc
      go_wp2_with fail
      refine (postingCheck_at id ls pa q pc d _ HQL.out HPL.out.1 HD.out P1.out).mono ?_
      rintro e w2 ⟨rfl, hb⟩
      have B2 : Hid (Below w.heap.size w w2) := below_on B1.out (Nat.le_refl _) hb
      clear hb k0 k1
      go_wp2
      go_ret2
      exact ldgPost.bad HE.out B2.out
  · have HE : Hid (Lg.post l (id, ls) = ([], c)) := by
      show _ = _
      unfold Lg.post
      rw [HC.out, if_neg c0]
    have c1 : (c != 0) = true := by simpa using c0
    have c2 : (c == 0) = false := by simpa using c0
    clear c0
    go_enter Try.func12, Try.ntmps12
    go_wp2_with fail
    have hlc := ledgerCheck_any l a cap _ HL.out.1 HF.out R0.out
    rw [HN.out, HC.out] at hlc
    refine hlc.mono ?_
    rintro e w1 ⟨rfl, hb⟩
    have B1 : Hid (Below w.heap.size w w1) := below_on B0.out (Nat.le_refl _) hb
    clear hb hlc
    go_wp2
    go_ret2
    exact ldgPost.bad HE.out B1.out
end Go.Proofs.Ytdebhcdmbijanaa
