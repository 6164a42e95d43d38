/-
  A call's draws only add up: behind every run of the machine at least as many answers have been drawn as before it. With this a contract that says 'Below' gives the world behind the call in the form that the library's sorts ask for; Rows of four numbers that the call itself has made: what they hold, stores, the library's sort; Package right: the first error; Package plane: checks, opposites; A region that draws its order: stores anywhere among operations whose values are known.
-/
import Derived.Sort.Grow
import Derived.Shelf.SlSortCmp.WholeK
import Derived.Test.YthdhakpmhndbfaaK1
import Derived.Test.YthdhakpmhndbfaaK2
import Derived.Test.YthdhakpmhndbfaaK3
import Derived.Test.YthdhakpmhndbfaaK4
import Derived.Test.YthdhakpmhndbfaaK5
import Derived.Test.YthdhakpmhndbfaaK6
namespace Go.Proofs.Ythdhakpmhndbfaa
open Go Go.RowKit

theorem ask_drawn {α : Type} (a : Ask α) : ∀ w : World, w.drawn ≤ (w.ask a).2.drawn := by
  induction a with
  | done a => intro w; exact Nat.le_refl _
  | ask what range k ih =>
    intro w
    unfold World.ask
    simp only
    split
    · exact ih _ _
    · exact Nat.le_trans (Nat.le_succ _) (ih _ { w with drawn := w.drawn + 1 })

theorem sys_drawn (w : World) (c : Sys) : w.drawn ≤ (w.sys c).2.drawn := by
  unfold World.sys
  have h := ask_drawn (Kernel.perform c w.os) w
  revert h
  generalize w.ask (Kernel.perform c w.os) = r
  intro h
  split
  · exact Nat.le_refl _
  · exact h

theorem viewStore_drawn {p : Program} {w : World} {at_ : Addr} {u : TypeId} {k : Addr} {v : Value} {atomic : Bool} {w' : World} {l : List Addr} (h : w.viewStore p at_ u k v atomic = .ok (w', l)) : w'.drawn = w.drawn := by
  unfold World.viewStore at h
  simp only [bind, Except.bind, pure, Except.pure, throw, throwThe, MonadExceptOf.throw] at h
  repeat' (first | (cases h; rfl) | (cases h; done) | split at h)

theorem farStore_drawn {p : Program} {w : World} {a : Addr} {v : Value} {atomic : Bool} {w' : World} {l : List Addr} (h : w.farStore p a v atomic = .ok (w', l)) : w'.drawn = w.drawn := by
  unfold World.farStore at h
  split at h
  · split at h
    · rename_i r hr
      cases h
      exact viewStore_drawn hr
    · cases h
  · cases h

theorem freeze_drawn (w : World) (a : Addr) (n : Nat) : (w.freeze a n).drawn = w.drawn := by unfold World.freeze; split <;> rfl

def resW {α : Type} : Result α → World | .ok _ w => w | .halt _ w => w

theorem run_drawn {α : Type} (p : Program) (s : Sem α) : ∀ w : World, w.drawn ≤ (resW (s.run p w)).drawn := by
  induction s with
  | pure a => intro w; exact Nat.le_refl _
  | load m a k ih =>
    intro w; unfold Sem.run
    split
    · exact ih _ _
    · split
      · exact ih _ _
      · exact Nat.le_refl _
  | store m a v k ih =>
    intro w
    unfold Sem.run
    split <;> (rename_i h; cases h)
    · exact Nat.le_refl _
    · exact Nat.le_refl _
    · split
      · split
        · exact Nat.le_refl _
        · exact ih (World.setCell _ a _)
      · split
        · rename_i h; exact Nat.le_trans (Nat.le_of_eq (farStore_drawn h).symm) (ih _)
        · exact Nat.le_refl _
  | new o k ih => intro w; exact ih _ { w with heap := w.heap.push o }
  | shape r k ih => intro w; exact ih _ _
  | freeze a n k ih => intro w; exact Nat.le_trans (Nat.le_of_eq (freeze_drawn w a n).symm) (ih _)
  | frozen a k ih => intro w; exact ih _ _
  | getObj r k ih =>
    intro w; unfold Sem.run
    split
    · exact Nat.le_refl _
    · exact ih _ _
    · exact Nat.le_refl _
  | setObj r o k ih =>
    intro w; unfold Sem.run
    split
    · exact Nat.le_refl _
    · exact ih { w with heap := w.heap.setIfInBounds r o }
    · exact Nat.le_refl _
  | choose q k ih =>
    intro w; unfold Sem.run
    split
    · exact ih _ _
    · exact Nat.le_trans (Nat.le_succ _) (ih _ { w with drawn := w.drawn + 1 })
  | sys c k ih => intro w; exact Nat.le_trans (sys_drawn w c) (ih _ _)
  | program k ih => intro w; exact ih _ _
  | mark m k ih => intro w; exact ih _
  | halt h => intro w; exact Nat.le_refl _

theorem runT_drawn {α : Type} (p : Program) (s : Sem α) : ∀ (w : World) (es : Array Event), w.drawn ≤ (resW (s.runT p w es).1).drawn := by
  induction s with
  | pure a => intro w es; exact Nat.le_refl _
  | load m a k ih =>
    intro w es; unfold Sem.runT
    split
    · exact ih _ _ _
    · split
      · exact ih _ _ _
      · exact Nat.le_refl _
  | store m a v k ih =>
    intro w es
    unfold Sem.runT
    split <;> (rename_i h; cases h)
    · exact Nat.le_refl _
    · exact Nat.le_refl _
    · split
      · split
        · exact Nat.le_refl _
        · exact ih (World.setCell _ a _) _
      · split
        · rename_i h; exact Nat.le_trans (Nat.le_of_eq (farStore_drawn h).symm) (ih _ _)
        · exact Nat.le_refl _
  | new o k ih => intro w es; exact ih _ { w with heap := w.heap.push o } _
  | shape r k ih => intro w es; exact ih _ _ _
  | freeze a n k ih => intro w es; exact Nat.le_trans (Nat.le_of_eq (freeze_drawn w a n).symm) (ih _ _)
  | frozen a k ih => intro w es; exact ih _ _ _
  | getObj r k ih =>
    intro w es; unfold Sem.runT
    split
    · exact Nat.le_refl _
    · exact ih _ _ _
    · exact Nat.le_refl _
  | setObj r o k ih =>
    intro w es; unfold Sem.runT
    split
    · exact Nat.le_refl _
    · exact ih { w with heap := w.heap.setIfInBounds r o } _
    · exact Nat.le_refl _
  | choose q k ih =>
    intro w es; unfold Sem.runT
    split
    · exact ih _ _ _
    · exact Nat.le_trans (Nat.le_succ _) (ih _ { w with drawn := w.drawn + 1 } _)
  | sys c k ih => intro w es; exact Nat.le_trans (sys_drawn w c) (ih _ _ _)
  | program k ih => intro w es; exact ih _ _ _
  | mark m k ih => intro w es; exact ih _ _
  | halt h => intro w es; exact Nat.le_refl _

theorem run_ok {α : Type} {p : Program} {s : Sem α} {w w' : World} {a : α} (h : s.run p w = .ok a w') : w.drawn ≤ w'.drawn := by
  have := run_drawn p s w; rw [h] at this; exact this
theorem runT_ok {α : Type} {p : Program} {s : Sem α} {w w' : World} {a : α} {es es' : Array Event} (h : s.runT p w es = (.ok a w', es')) : w.drawn ≤ w'.drawn := by
  have := runT_drawn p s w es; rw [h] at this; exact this
theorem runT_halt {α : Type} {p : Program} {s : Sem α} {w w' : World} {a : Halt} {es es' : Array Event} (h : s.runT p w es = (.halt a w', es')) : w.drawn ≤ w'.drawn := by
  have := runT_drawn p s w es; rw [h] at this; exact this

theorem runT_fst_ok {α : Type} {p : Program} {s : Sem α} {w w' : World} {a : α} {es : Array Event} (h : (s.runT p w es).1 = .ok a w') : w.drawn ≤ w'.drawn := by
  have := runT_drawn p s w es; rw [h] at this; exact this
theorem runT_fst_halt {α : Type} {p : Program} {s : Sem α} {w w' : World} {a : Halt} {es : Array Event} (h : (s.runT p w es).1 = .halt a w') : w.drawn ≤ w'.drawn := by
  have := runT_drawn p s w es; rw [h] at this; exact this

/-- How many answers have been drawn where a step of one goroutine goes on. -/
def GOk (n : Nat) : GStep → Prop
  | .go _ w _ | .comm _ _ _ _ w _ | .spawn _ _ w _ | .count _ w _ | .timer _ _ w _ | .alone _ _ w _ | .newcoro _ _ _ w _ | .coroswitch _ _ _ w _ | .collect _ w _ | .watch _ w _ => n ≤ w.drawn
  | .ended .. => True

theorem gok_ite {n : Nat} {c : Prop} [Decidable c] {a b : GStep} (ha : GOk n a) (hb : GOk n b) : GOk n (if c then a else b) := by split <;> assumption
theorem GOk.after {n : Nat} {s : GStep} (es : Array Event) (h : GOk n s) : GOk n (s.after es) := by cases s <;> exact h

theorem gok_doReturn (p : Program) (main : Bool) (fr : Frame) (cs : List Frame) (d : Option Dying) (v : Value) {n : Nat} {w : World} (h : n ≤ w.drawn) : GOk n (doReturn p main fr cs d v w) := by
  unfold doReturn
  repeat' (first | exact h | exact trivial | (show GOk n (.go _ w _); exact h) | split)

theorem gok_endThrow (fr : Frame) (m : String) {n : Nat} {w : World} (h : n ≤ w.drawn) : GOk n (endThrow fr m w) := h

theorem gok_endPrinting (p : Program) (fr : Frame) (v : Value) {n : Nat} {w : World} (h : n ≤ w.drawn) : GOk n (endPrinting p fr v w) := by
  unfold endPrinting
  simp only
  split
  · exact h
  · trivial

theorem gok_endFatal (p : Program) (fr : Frame) (cs : List Frame) (d : Option Dying) (m : String) {n : Nat} {w : World} (h : n ≤ w.drawn) : GOk n (endFatal p fr cs d m w) := by
  unfold endFatal
  simp only
  split
  · rename_i hr; exact Nat.le_trans h (run_ok hr)
  · trivial
  · trivial

theorem gok_endWith (w : World) (fd : Nat) (t : ByteArray) (o : Outcome) (n : Nat) : GOk n (endWith w fd t o) := by
  unfold endWith
  simp only
  repeat' (first | exact trivial | split)

theorem gok_early (p : Program) (fr : Frame) (cs : List Frame) (d : Option Dying) (g : Nat) {n : Nat} {w : World} (h : n ≤ w.drawn) : GOk n (early p fr cs d g w) := by
  unfold early
  simp only
  repeat' (first | exact h | exact trivial | (refine Nat.le_trans ?_ (run_ok (by assumption))) | split | (simp only [GOk]))

theorem gok_callDeferred (p : Program) (fr : Frame) (cs : List Frame) (dy : Option Dying) (d : Deferred) {n : Nat} {w : World} (h : n ≤ w.drawn) : GOk n (callDeferred p fr cs dy d w) := by
  unfold callDeferred
  refine gok_ite trivial ?_
  · have hr := runT_drawn p (invoke d.target d.args) w #[]
    revert hr
    generalize (invoke d.target d.args).runT p w #[] = r
    obtain ⟨r, es⟩ := r
    intro hr
    simp only
    apply GOk.after
    have hr' : n ≤ (resW r).drawn := Nat.le_trans h hr
    clear hr
    repeat' (first | exact hr' | exact trivial | exact gok_endFatal _ _ _ _ _ hr' | exact gok_endThrow _ _ hr' | split)

theorem gok_unwind (p : Program) (main : Bool) (fr : Frame) (cs : List Frame) (dy : Option Dying) {n : Nat} {w : World} (h : n ≤ w.drawn) : GOk n (unwind p main fr cs dy w) := by
  unfold unwind
  split
  · rename_i block _ ds _
    have hr := runT_drawn p (Instr.takeDeferred block) w #[]
    revert hr
    generalize (Instr.takeDeferred block).runT p w #[] = r
    obtain ⟨r, es⟩ := r
    intro hr
    simp only
    apply GOk.after
    have hr' : n ≤ (resW r).drawn := Nat.le_trans h hr
    clear hr
    repeat' (first | exact hr' | exact trivial | split)
  · exact gok_callDeferred _ _ _ _ _ h
  · split
    · trivial
    · repeat' (first | exact h | exact trivial | exact gok_endPrinting _ _ _ h | (have hx := Nat.le_trans h (run_ok (by assumption)); exact hx) | split)
    · split
      · exact gok_doReturn _ _ _ _ _ _ h
      · rename_i fn _
        have hr := runT_drawn p (results fn fr.tmps) w #[]
        revert hr
        generalize (results fn fr.tmps).runT p w #[] = r
        obtain ⟨r, es⟩ := r
        intro hr
        simp only
        apply GOk.after
        have hr' : n ≤ (resW r).drawn := Nat.le_trans h hr
        clear hr
        repeat' (first | exact gok_doReturn _ _ _ _ _ _ hr' | exact trivial | split)

theorem gok_writeOn (p : Program) (fr : Frame) (d : Dying) (f : Fatal) {n : Nat} {w : World} (h : n ≤ w.drawn) : GOk n (writeOn p fr d f w) := by
  unfold writeOn
  simp only
  split
  · trivial
  · split
    · exact Nat.le_trans h (runT_ok (by assumption))
    · exact Nat.le_trans h (runT_halt (by assumption))
    · trivial
    · trivial

theorem gok_die (p : Program) (fr : Frame) (d : Dying) {n : Nat} {w : World} (h : n ≤ w.drawn) : GOk n (die p fr d w) := by
  unfold die
  split
  · exact gok_writeOn _ _ _ _ h
  · split
    · split
      · exact h
      · exact gok_endWith _ _ _ _ _
    · simp only
      split
      · exact h
      · split
        · rename_i hr; exact Nat.le_trans h (run_ok hr)
        · trivial
      · rename_i t recv name _
        have hr := runT_drawn p (invoke (.fn (.method name) #[]) #[.iface t recv]) w #[]
        revert hr
        generalize (invoke (.fn (.method name) #[]) #[.iface t recv]).runT p w #[] = r
        obtain ⟨r, es⟩ := r
        intro hr
        simp only
        apply GOk.after
        have hr' : n ≤ (resW r).drawn := Nat.le_trans h hr
        clear hr
        repeat' (first | exact hr' | exact trivial | exact gok_endPrinting _ _ _ hr' | split)
      · trivial

theorem gok_apply (p : Program) (listen : Bool) (fr : Frame) (cs : List Frame) (dy : Option Dying) (s : Sem Next) {n : Nat} {w : World} (h : n ≤ w.drawn) : GOk n (stepG.apply p listen fr cs dy s w) := by
  unfold stepG.apply
  have hr : w.drawn ≤ (resW (if listen then s.runT p w #[] else (s.run p w, #[])).1).drawn := by
    split
    · exact runT_drawn p s w #[]
    · exact run_drawn p s w
  revert hr
  generalize (if listen then s.runT p w #[] else (s.run p w, #[])) = r
  obtain ⟨r, es⟩ := r
  intro hr
  simp only
  apply GOk.after
  have hr' : n ≤ (resW r).drawn := Nat.le_trans h hr
  clear hr
  repeat' (first | exact hr' | exact trivial | exact gok_endFatal _ _ _ _ _ hr' | exact gok_endThrow _ _ hr' | exact gok_early _ _ _ _ _ hr' | split)

theorem gok_oper (p : Program) (listen : Bool) (fr : Frame) (cs : List Frame) (dy : Option Dying) {n : Nat} {w : World} (h : n ≤ w.drawn) : GOk n (stepG.oper p listen fr cs dy w) := by
  unfold stepG.oper
  split
  · trivial
  · split
    · exact gok_apply _ _ _ _ _ _ h
    · exact gok_apply _ _ _ _ _ _ h

theorem gok_exec (p : Program) (main listen : Bool) (fr : Frame) (cs : List Frame) (dy : Option Dying) {n : Nat} {w : World} (h : n ≤ w.drawn) : GOk n (stepG.exec p main listen fr cs dy w) := by
  unfold stepG.exec
  simp only
  split
  all_goals repeat' (first | exact h | exact trivial | exact gok_apply _ _ _ _ _ _ h | exact gok_oper _ _ _ _ _ h | exact gok_doReturn _ _ _ _ _ _ (Nat.le_trans h (runT_fst_ok (by assumption))) | exact gok_apply _ _ _ _ _ _ (Nat.le_trans h (runT_fst_ok (by assumption))) | (refine GOk.after _ ?_) | (have hx := Nat.le_trans h (runT_fst_ok (by assumption)); exact hx) | (have hx := Nat.le_trans h (runT_fst_halt (by assumption)); exact hx) | (have hx := Nat.le_trans h (run_ok (by assumption)); exact hx) | (unfold Option.elim; split) | split)

theorem gok_step (p : Program) (main : Bool) (g : Goroutine) {n : Nat} {w : World} (listen : Bool) (h : n ≤ w.drawn) : GOk n (stepG p main g w listen) := by
  unfold stepG
  simp only
  split
  · exact gok_die _ _ _ h
  · exact gok_exec _ _ _ _ _ _ h
  · exact gok_unwind _ _ _ _ _ h

def SOk (n : Nat) : Stepped → Prop
  | .next m => n ≤ m.world.drawn
  | .ended .. => True

theorem sok_look (p : Program) (gs : Array Goroutine) (rest : Rest) {n : Nat} {w : World} (h : n ≤ w.drawn) : SOk n (look p gs rest w) := by
  unfold look
  simp only
  repeat' (first | exact h | exact trivial | (refine Nat.le_trans ?_ (run_ok (by assumption))) | split | (simp only [GOk, SOk]))

theorem waitingAt_drawn {rest : Rest} {cases : Array CommCase} {w w' : World} (h : waitingAt rest cases w = some w') : w'.drawn = w.drawn := by
  unfold waitingAt at h
  repeat' (first | (cases h; rfl) | (cases h; done) | split at h)

theorem sok_communicate (p : Program) (rest : Rest) (gs : Array Goroutine) (i : Nat) (g : Goroutine) (cases : Array CommCase) (blocking : Bool) (shape : CommShape) {n : Nat} {w : World} (h : n ≤ w.drawn) : SOk n (communicate p rest gs i g cases blocking shape w).1 := by
  unfold communicate
  simp only
  repeat' (first | exact h | exact trivial | (have hx := Nat.le_trans h (Nat.le_of_eq (waitingAt_drawn (by assumption)).symm); exact hx) | (refine Nat.le_trans ?_ (run_ok (by assumption))) | split | (simp only [GOk, SOk]))

theorem sok_serve (p : Program) (m : Machine) (k : Nat) {n : Nat} (h : n ≤ m.world.drawn) : SOk n (serve p m k) := by
  unfold serve
  simp only
  repeat' (first | exact h | exact trivial | split)

theorem drain_drawn (w : World) (c : Nat) : (drain w c).2.drawn = w.drawn := by unfold drain; split <;> rfl

theorem retime_drawn (m : Machine) (k : Nat) (t : Timer) (a b : Nat) : (retime m k t a b).2.world.drawn = m.world.drawn := by
  unfold retime
  simp only
  cases t.chan
  all_goals first
    | rfl
    | exact drain_drawn _ _
    | skip

theorem timerOp_drawn {m m' : Machine} {op : TimerOp} {v : Value} (h : timerOp m op = .ok (v, m')) : m'.world.drawn = m.world.drawn := by
  have hnamed : ∀ {m : Machine} {D : Nat} {var : Addr} {f : Nat → Timer → Value × Machine}, (∀ k t, (f k t).2.world.drawn = D) → timerOp.named m var f = .ok (v, m') → m'.world.drawn = D := by
    intro m D var f hf h
    unfold timerOp.named at h
    split at h
    · have := hf ‹_› (m.rest.timers.getD ‹_› default)
      injection h with h
      rw [h] at this
      exact this
    · cases h
  have hopened : ∀ {m m1 : Machine} {var : Addr}, timerOp.opened m var = some m1 → m1.world.drawn = m.world.drawn := by
    intro m m1 var h
    unfold timerOp.opened at h
    repeat' (first | (cases h; rfl) | (cases h; done) | split at h)
  unfold timerOp at h
  split at h
  · repeat' (first | (cases h; rfl) | (cases h; done) | split at h)
  · exact hnamed (fun k t => retime_drawn _ _ _ _ _) h
  · split at h
    · rename_i ho
      exact (hnamed (fun k t => retime_drawn _ _ _ _ _) h).trans (hopened ho)
    · cases h
  · cases h; rfl

theorem sok_runT (p : Program) (m : Machine) (i : Nat) (listen : Bool) {n : Nat} (h : n ≤ m.world.drawn) : SOk n (runT p m i listen).1 := by
  have hs := gok_step p (i == 0) (m.gs.swapAt! i { (default : Goroutine) with status := .finished }).1 (w := m.world) listen h
  revert hs
  unfold runT
  simp only
  generalize stepG p (i == 0) (m.gs.swapAt! i { (default : Goroutine) with status := .finished }).1 m.world listen = s
  intro hs
  cases s with
  | ended => trivial
  | comm g cases blocking shape w es => exact sok_communicate _ _ _ _ _ _ _ _ hs
  | go g w es => exact hs
  | spawn g c w es => exact hs
  | count g w es => 
    simp only
    split
    · trivial
    · exact hs
  | alone g on w es => exact hs
  | collect g w es => exact sok_look _ _ _ hs
  | watch g w es => exact hs
  | newcoro g c d w es => exact hs
  | coroswitch g c e w es =>
    simp only
    split
    · exact hs
    · exact hs
    · trivial
  | timer g op w es =>
    simp only
    split
    · rename_i he
      have := timerOp_drawn he
      exact Nat.le_trans hs (Nat.le_of_eq this.symm)
    · exact hs
    · trivial
    · trivial

def MOk (n : Nat) : Move → Prop
  | .goroutine m _ => n ≤ m.world.drawn
  | .machine s _ => SOk n s

theorem mok_askOn (p : Program) (m : Machine) {n : Nat} (h : n ≤ m.world.drawn) : MOk n (askOn p m) := by
  unfold askOn
  simp only
  repeat' (first | exact h | exact trivial | exact sok_serve _ _ _ (Nat.le_trans h (run_ok (by assumption))) | (refine Nat.le_trans ?_ (run_ok (by assumption))) | split | (simp only [MOk, SOk, Machine.advanceTo]; done) | (simp only [SOk, MOk, Machine.advanceTo]))

theorem mok_ask (p : Program) (m : Machine) {n : Nat} (h : n ≤ m.world.drawn) : MOk n (ask p m) := by
  unfold ask
  split
  · split
    · trivial
    · rename_i hr
      have hw := Nat.le_trans h (run_ok hr)
      have hl := sok_look p m.gs m.rest hw
      split
      · rename_i he; rw [he] at hl; exact mok_askOn _ _ hl
      · rename_i he; exact hl
    · rename_i hr
      exact mok_askOn _ _ (Nat.le_trans h (run_ok hr))
  · exact mok_askOn _ _ h

theorem mok_move (p : Program) (m : Machine) {n : Nat} (h : n ≤ m.world.drawn) : MOk n (move p m) := by
  unfold move
  repeat' (first | exact h | exact trivial | exact mok_ask _ _ h | split)

theorem step_drawn {p : Program} {m m' : Machine} (h : step p m = .next m') : m.world.drawn ≤ m'.world.drawn := by
  have hm := mok_move p m (Nat.le_refl m.world.drawn)
  have hs : SOk m.world.drawn (step p m) := by
    unfold step stepT
    split
    · rename_i he; rw [he] at hm; exact sok_runT _ _ _ _ hm
    · rename_i he; rw [he] at hm; exact hm
  rw [h] at hs
  exact hs

theorem steps_drawn {p : Program} {m m' : Machine} (h : Steps p m m') : m.world.drawn ≤ m'.world.drawn := by
  obtain ⟨n, hn⟩ := h
  induction n generalizing m with
  | zero => unfold runN at hn; cases hn; exact Nat.le_refl _
  | succ n ih =>
    unfold runN at hn
    split at hn
    · rename_i h1; exact Nat.le_trans (step_drawn h1) (ih hn)
    · exact absurd hn (by rename_i h2; intro h3; exact h2 _ h3)

theorem Calls.drawn {P : Program} {f : FuncId} {args : Array Value} {w : World} {R : Ending → World → Prop} (h : Calls P f args w R) : Calls P f args w fun e w' => R e w' ∧ (e = .outgrown ∨ w.drawn ≤ w'.drawn) := by
  intro cs
  obtain ⟨e, w', fr, hR, hc, hf, hl⟩ := h cs
  refine ⟨e, w', fr, ⟨hR, ?_⟩, hc, hf, hl⟩
  cases e with
  | outgrown => exact Or.inl rfl
  | returned v => exact Or.inr (steps_drawn hc)
  | panicked c => exact Or.inr (steps_drawn hc)

theorem below_grow {w w' : World} (h : Below w.heap.size w w') (hd : w.drawn ≤ w'.drawn) : ∃ q os, w' = Sort.grow (w.drewN q) os := by
  refine ⟨w'.drawn - w.drawn, w'.heap.extract w.heap.size w'.heap.size, ?_⟩
  obtain ⟨h1, h2, h3, h4, h5⟩ := h
  obtain ⟨hp, tp, dr, os, ou⟩ := w'
  obtain ⟨hp0, tp0, dr0, os0, ou0⟩ := w
  simp only at h1 h2 h3 h4 h5 hd
  subst h1 h2 h3
  unfold Sort.grow World.drewN
  simp only [World.mk.injEq, true_and, and_true]
  refine ⟨?_, by omega⟩
  apply Array.ext_getElem?
  intro i
  by_cases hi : i < hp0.size
  · rw [Array.getElem?_append_left hi]; exact h5 i hi
  · rw [Array.getElem?_append_right (by omega), Array.getElem?_extract]
    split
    · congr 1; omega
    · rw [Array.getElem?_eq_none (by omega)]

end Go.Proofs.Ythdhakpmhndbfaa

namespace Go.Proofs.Ythdhakpmhndbfaa
open Go.RowKit Go.Shelf

/-- Four numbers as cells. -/
def encV (q : V4) : List Value := [.int .i64 q.a, .int .i64 q.b, .int .i64 q.c, .int .i64 q.d]
/-- The block's first cells are these; they may be written. -/
def RowV (W : World) (B : Nat) (l : List V4) : Prop :=
  B < W.heap.size ∧ ∀ i q, l[i]? = some q → (W.cell? ⟨B, i * 4, none⟩ = some (.int .i64 q.a) ∧ W.cell? ⟨B, i * 4 + 1, none⟩ = some (.int .i64 q.b) ∧ W.cell? ⟨B, i * 4 + 2, none⟩ = some (.int .i64 q.c) ∧ W.cell? ⟨B, i * 4 + 3, none⟩ = some (.int .i64 q.d)) ∧
    (W.frozen? ⟨B, i * 4, none⟩ = false ∧ W.frozen? ⟨B, i * 4 + 1, none⟩ = false ∧ W.frozen? ⟨B, i * 4 + 2, none⟩ = false ∧ W.frozen? ⟨B, i * 4 + 3, none⟩ = false)
theorem RowV.rdV {W : World} {B : Nat} {l : List V4} (h : RowV W B l) : RdV W (some ⟨B, 0, none⟩) l := by
  intro i q hi
  obtain ⟨h0, h1, h2, h3⟩ := (h.2 i q hi).1
  exact ⟨B, 0, rfl, h.1, by rw [Nat.zero_add]; exact h0, by rw [Nat.zero_add]; exact h1, by rw [Nat.zero_add]; exact h2, by rw [Nat.zero_add]; exact h3⟩
theorem RowV.of_block {W W' : World} {B : Nat} {l : List V4} (h : RowV W B l) (hs : W.heap.size ≤ W'.heap.size) (hb : W'.heap[B]? = W.heap[B]?) : RowV W' B l := by
  refine ⟨Nat.lt_of_lt_of_le h.1 hs, fun i q hi => ?_⟩
  obtain ⟨⟨h0, h1, h2, h3⟩, f0, f1, f2, f3⟩ := h.2 i q hi
  have hc : ∀ o, W'.cell? ⟨B, o, none⟩ = W.cell? ⟨B, o, none⟩ := fun o => World.cell?_of_block hb
  have hf : ∀ o, W'.frozen? ⟨B, o, none⟩ = W.frozen? ⟨B, o, none⟩ := fun o => World.frozen?_of_block hb
  exact ⟨⟨(hc _).trans h0, (hc _).trans h1, (hc _).trans h2, (hc _).trans h3⟩, (hf _).trans f0, (hf _).trans f1, (hf _).trans f2, (hf _).trans f3⟩
theorem RowV.below {W W' : World} {B : Nat} {l : List V4} (h : RowV W B l) (hb : Below W.heap.size W W') : RowV W' B l := h.of_block hb.size (hb.block B h.1)
theorem RowV.take {W : World} {B : Nat} {l : List V4} (h : RowV W B l) (n : Nat) : RowV W B (l.take n) := by
  refine ⟨h.1, fun i q hi => h.2 i q ?_⟩
  by_cases hn : i < n
  · rwa [List.getElem?_take_of_lt hn] at hi
  · rw [List.getElem?_take_eq_none (by omega)] at hi; cases hi
/-- A store at place k. -/
theorem RowV.set {W : World} {B : Nat} {l : List V4} (h : RowV W B l) {k : Nat} (hk : k < l.length) (q : V4) :
    RowV ((((W.setCell ⟨B, k * 4, none⟩ (.int .i64 q.a)).setCell ⟨B, k * 4 + 1, none⟩ (.int .i64 q.b)).setCell ⟨B, k * 4 + 2, none⟩ (.int .i64 q.c)).setCell ⟨B, k * 4 + 3, none⟩ (.int .i64 q.d)) B (l.set k q) := by
  refine ⟨by simpa [World.setCell] using h.1, fun i p hi => ?_⟩
  have hfr : ∀ o, ((((W.setCell ⟨B, k * 4, none⟩ (.int .i64 q.a)).setCell ⟨B, k * 4 + 1, none⟩ (.int .i64 q.b)).setCell ⟨B, k * 4 + 2, none⟩ (.int .i64 q.c)).setCell ⟨B, k * 4 + 3, none⟩ (.int .i64 q.d)).frozen? ⟨B, o, none⟩ = W.frozen? ⟨B, o, none⟩ := fun o => by simp only [World.frozen?_setCell]
  have hkk := (h.2 k l[k] (List.getElem?_eq_getElem hk)).1
  have ha : ∀ (X : World) (a b : Nat) (v : Value), a ≠ b → (X.setCell ⟨B, a, none⟩ v).cell? ⟨B, b, none⟩ = X.cell? ⟨B, b, none⟩ := fun X a b v hab => World.cell?_setCell_other _ _ _ _ (by intro e; cases e; exact hab rfl)
  have hs : ∀ (X : World) (a : Nat) (v u : Value), X.cell? ⟨B, a, none⟩ = some u → (X.setCell ⟨B, a, none⟩ v).cell? ⟨B, a, none⟩ = some v := fun X a v u hu => World.cell?_setCell_same _ _ _ (by rw [hu])
  simp only [hfr]
  by_cases hik : k = i
  · subst hik
    rw [List.getElem?_set_self hk] at hi
    cases hi
    obtain ⟨c0, c1, c2, c3⟩ := hkk
    refine ⟨⟨?_, ?_, ?_, ?_⟩, (h.2 k _ (List.getElem?_eq_getElem hk)).2⟩
    · rw [ha _ _ _ _ (by omega), ha _ _ _ _ (by omega), ha _ _ _ _ (by omega)]; exact hs _ _ _ _ c0
    · rw [ha _ _ _ _ (by omega), ha _ _ _ _ (by omega)]; exact hs _ _ _ _ (by rw [ha _ _ _ _ (by omega)]; exact c1)
    · rw [ha _ _ _ _ (by omega)]; exact hs _ _ _ _ (by rw [ha _ _ _ _ (by omega), ha _ _ _ _ (by omega)]; exact c2)
    · exact hs _ _ _ _ (by rw [ha _ _ _ _ (by omega), ha _ _ _ _ (by omega), ha _ _ _ _ (by omega)]; exact c3)
  · rw [List.getElem?_set_ne hik] at hi
    have hx := h.2 i p hi
    refine ⟨?_, hx.2⟩
    obtain ⟨c0, c1, c2, c3⟩ := hx.1
    refine ⟨?_, ?_, ?_, ?_⟩ <;> (rw [ha _ _ _ _ (by omega), ha _ _ _ _ (by omega), ha _ _ _ _ (by omega), ha _ _ _ _ (by omega)]; assumption)

section
variable {Ok : V4 → Prop}
def encS (x : {q : V4 // Ok q}) : List Value := encV x.1
theorem RowV.holds [Inhabited {q : V4 // Ok q}] {W : World} {B : Nat} {d : List {q : V4 // Ok q}} (h : RowV W B (d.map (·.1))) : Sort.HoldsK encS 4 W B 0 d.toArray := by
  intro j hj
  rw [Sort.size_flatK] at hj
  rw [Sort.get_flatK _ _ _ _ hj]
  simp only [List.size_toArray] at hj
  have hi : j / 4 < d.length := by omega
  obtain ⟨⟨h0, h1, h2, h3⟩, f0, f1, f2, f3⟩ := h.2 (j / 4) (d[j / 4]).1 (by rw [List.getElem?_map, List.getElem?_eq_getElem hi]; rfl)
  have e0 : (d.toArray)[j / 4]! = d[j / 4] := by simp [hi]
  rw [e0]
  simp only [Nat.zero_add, id]
  have h4 : j % 4 = 0 ∨ j % 4 = 1 ∨ j % 4 = 2 ∨ j % 4 = 3 := by omega
  rcases h4 with e | e | e | e
  · have ej : j = j / 4 * 4 := by omega
    rw [e]; rw [← ej] at h0 f0; exact ⟨h0, f0⟩
  · have ej : j = j / 4 * 4 + 1 := by omega
    rw [e]; rw [← ej] at h1 f1; exact ⟨h1, f1⟩
  · have ej : j = j / 4 * 4 + 2 := by omega
    rw [e]; rw [← ej] at h2 f2; exact ⟨h2, f2⟩
  · have ej : j = j / 4 * 4 + 3 := by omega
    rw [e]; rw [← ej] at h3 f3; exact ⟨h3, f3⟩
theorem RowV.of_holds [Inhabited {q : V4 // Ok q}] {W : World} {B : Nat} {d : Array {q : V4 // Ok q}} (hB : B < W.heap.size) (h : Sort.HoldsK encS 4 W B 0 d) : RowV W B (d.toList.map (·.1)) := by
  refine ⟨hB, fun i q hi => ?_⟩
  rw [List.getElem?_map, Option.map_eq_some_iff] at hi
  obtain ⟨x, hx, rfl⟩ := hi
  have hid : i < d.size := by have := (List.getElem?_eq_some_iff.1 hx).1; simpa using this
  have e0 : d[i]! = x := by
    rw [getElem!_pos d i hid]
    have := (List.getElem?_eq_some_iff.1 hx).2
    simpa using this
  have hc : ∀ c, c < 4 → W.cell? ⟨B, i * 4 + c, none⟩ = some (encV x.1)[c]! ∧ W.frozen? ⟨B, i * 4 + c, none⟩ = false := fun c hc => by
    have := Sort.HoldsK.cell h hid hc
    rw [e0, Nat.zero_add] at this
    exact this
  exact ⟨⟨(hc 0 (by decide)).1, (hc 1 (by decide)).1, (hc 2 (by decide)).1, (hc 3 (by decide)).1⟩, (hc 0 (by decide)).2, (hc 1 (by decide)).2, (hc 2 (by decide)).2, (hc 3 (by decide)).2⟩
theorem grownBy_sortK [Inhabited {q : V4 // Ok q}] {w : World} {g n : Nat} {os : Array Obj} (d : Array {q : V4 // Ok q}) : w.grownBy (sortWorldK encS 4 w g 0 n d os) (some g) := by
  refine ⟨rfl, rfl, rfl, by simp [sortWorldK, Sort.putRowK], fun k hk hne => ?_⟩
  unfold sortWorldK Sort.putRowK
  rw [Sort.heap_grow_old _ _ (by simpa using hk)]
  have : g ≠ k := fun e => hne (by rw [e])
  simp [Sort.putRow, Sort.mapBlock, Sort.ahead, Array.getElem?_modify, this]

/-- The library's sort of such a row: a permutation of it, in order. -/
theorem sortV_any {ρ : Go.Shelf.Ren} (L : Go.Proofs.SlLaysF0.n6 Try.prog ρ) (aE : ∀ w, (isAgg (ρ.t 24)).run Try.prog w = .ok true w) (zE : ∀ w, (Go.sizeOf (ρ.t 24)).run Try.prog w = .ok 4 w) (q0 : V4) (h0 : Ok q0) (cf : V4 → V4 → Int)
    (hirr : ∀ x, Ok x → ¬ cf x x < 0) (htr : ∀ x y z, Ok x → Ok y → Ok z → cf x y < 0 → cf y z < 0 → cf x z < 0) (hnt : ∀ x y z, Ok x → Ok y → Ok z → ¬ cf x y < 0 → ¬ cf y z < 0 → ¬ cf x z < 0)
    (g : Nat) (cb : Array Value) (B cap : Nat) (l : List V4) (w : World) (hl : ∀ q ∈ l, Ok q) (eg : ∀ args w, (callFunc g args).run Try.prog w = .ok (.enter g args) w)
    (hcmp : ∀ W, w.grownBy W (some B) → ∀ x y, Ok x → Ok y → Calls Try.prog g (#[.agg #[.int .i64 x.a, .int .i64 x.b, .int .i64 x.c, .int .i64 x.d], .agg #[.int .i64 y.a, .int .i64 y.b, .int .i64 y.c, .int .i64 y.d]] ++ cb) W fun e w' => e = .returned (.int .i64 (cf x y)) ∧ Below W.heap.size W w')
    (hr : RowV w B l) (hn : l.length < 1000000000) :
    Calls Try.prog (ρ.f 6) #[.slice (some ⟨B, 0, none⟩) l.length cap, .func (.func g) #[] cb] w fun e w' => e = .returned (.tuple #[]) ∧ ∃ l' : List V4, l'.Perm l ∧ (∀ (i j : Nat) (hi : i < j) (hj : j < l'.length), ¬ cf l'[j] l'[i] < 0) ∧ RowV w' B l' ∧ w.grownBy w' (some B) := by
  haveI : Inhabited {q : V4 // Ok q} := ⟨⟨q0, h0⟩⟩
  obtain ⟨d, hd⟩ : ∃ d : List {q : V4 // Ok q}, d.map (·.1) = l := ⟨l.attach.map fun x => ⟨x.1, hl x.1 x.2⟩, by simp⟩
  have hdl : d.length = l.length := by rw [← hd, List.length_map]
  rw [← hd] at hr
  have hH := hr.holds
  have hcl : Go.Proofs.CmpLays Try.prog g cb encS 4 (fun x y : {q : V4 // Ok q} => cf x.1 y.1) B 0 d.toArray.size w := by
    intro m os dk hs x y
    have h := hcmp (sortWorldK encS 4 w B 0 m dk os) (grownBy_sortK dk) x.1 y.1 x.2 y.2
    exact (Calls.drawn h).mono fun e w' hh => by
      obtain ⟨⟨he, hb⟩, hdr⟩ := hh
      refine ⟨he, below_grow hb ?_⟩
      rcases hdr with h1 | h1
      · rw [he] at h1; cases h1
      · exact h1
  have hO : Sort.SWO (Go.Proofs.ltOf fun x y : {q : V4 // Ok q} => cf x.1 y.1) := {
    irrefl := fun x => decide_eq_false (hirr x.1 x.2)
    trans := fun x y z h1 h2 => decide_eq_true (htr x.1 y.1 z.1 x.2 y.2 z.2 (of_decide_eq_true h1) (of_decide_eq_true h2))
    ntrans := fun x y z h1 h2 => decide_eq_false (hnt x.1 y.1 z.1 x.2 y.2 z.2 (of_decide_eq_false h1) (of_decide_eq_false h2)) }
  have hcon := Go.Proofs.AnyQ.slices_SortFunc L 4 aE zE encS (fun _ => rfl) (fun x v hv => by
    have hv' : v ∈ encV x.1 := hv
    unfold encV at hv'
    simp at hv'
    rcases hv' with rfl | rfl | rfl | rfl <;> rfl) (fun x y : {q : V4 // Ok q} => cf x.1 y.1) hO g cb B 0 cap d.toArray w eg hcl hH hr.1 (by simp; omega)
  rw [List.size_toArray, hdl] at hcon
  refine hcon.mono fun e w' hh => ?_
  obtain ⟨he, d', n, os, hp, hs, rfl⟩ := hh
  have hsz : d'.size = d.length := by have := hp.1; simpa using this
  refine ⟨he, d'.toList.map (·.1), ?_, ?_, ?_, grownBy_sortK d'⟩
  · have h3 := hp.2.2
    rw [← hdl] at h3
    have e1 : d'.extract 0 d.length = d' := by rw [← hsz]; simp
    have e2 : (d.toArray).extract 0 d.length = d.toArray := by simp
    rw [e1, e2] at h3
    rw [← hd]
    exact h3.map _
  · intro i j hi hj
    have hj' : j < d'.size := by simpa using hj
    have h := hs i j (Nat.zero_le _) hi (by rw [← hdl, ← hsz]; exact hj')
    rw [getElem!_pos d' j hj', getElem!_pos d' i (by omega)] at h
    have h2 := of_decide_eq_false h
    simpa using h2
  · refine RowV.of_holds ?_ (holdsK_sortWorldK_c encS 4 w B 0 d.toArray d' n os hH hr.1 (by rw [hsz]; simp))
    exact Nat.lt_of_lt_of_le hr.1 (grownBy_sortK (w := w) d').size
end

end Go.Proofs.Ythdhakpmhndbfaa

namespace Go.Proofs.Ythdhakpmhndbfaa
open Go.RowKit Go.Shelf
attribute [local go_sem] Oper.semAt_some

set_option maxRecDepth 100000 in
set_option maxHeartbeats 2000000 in
theorem within_closure (bl bs : Nat) (lim : Int) (p : Option Addr) (n c : Nat) (xs : List Int) (w : World) (hl : xs.length = n) (hn : n ≤ 1000) (hr : RdI w p xs) (h0 : 0 ≤ lim) (h1 : lim < 9223372036854775808)
    (c0 : w.cell? ⟨bl, 0, none⟩ = some (.int .i64 lim)) (c1 : w.cell? ⟨bs, 0, none⟩ = some (.slice p n c)) :
    Calls Try.prog 82 #[.pointer (some ⟨bl, 0, none⟩), .pointer (some ⟨bs, 0, none⟩)] w fun e w' => e = .returned (.int .i64 (errE (within lim xs) 1)) ∧ Below w.heap.size w w' := by
  have hw := areWithin_any lim p n c xs w hl hn hr h0 h1
  generalize within lim xs = b at *
  have HW := Lib.hid hw
  clear hw hr hl
  go_enter Try.func82, Try.ntmps82
  go_wp2_with fail
  refine HW.out.mono ?_
  rintro e w2 ⟨rfl, rfl⟩
  cases b
  · go_wp2_with fail
    go_ret
    exact ⟨rfl, Below.refl _ _⟩
  · go_wp2_with fail
    go_ret
    exact ⟨rfl, Below.refl _ _⟩

set_option maxRecDepth 100000 in
set_option maxHeartbeats 2000000 in
theorem withins_any (lim : Int) (p : Option Addr) (n c : Nat) (xs : List Int) (w : World) (hl : xs.length = n) (hn : n ≤ 1000) (hr : RdI w p xs) (h0 : 0 ≤ lim) (h1 : lim < 9223372036854775808) :
    Calls Try.prog 57 #[.int .i64 lim, .slice p n c] w fun e w' => ∃ v, e = .returned v ∧ ChkIs w' v (errE (within lim xs) 1) ∧ Below w.heap.size w w' := by
  have hb0 : Below w.heap.size w ((w.alloc (.cells #[.int .i64 lim] 2)).alloc (.cells #[.slice p n c] 72)) := bw2 w _ _
  have k0 : Blk ((w.alloc (.cells #[.int .i64 lim] 2)).alloc (.cells #[.slice p n c] 72)) w.heap.size #[.int .i64 lim] 2 := (Blk.new w _ _).alloc _
  have k1 : Blk ((w.alloc (.cells #[.int .i64 lim] 2)).alloc (.cells #[.slice p n c] 72)) (w.heap.size + 1) #[.slice p n c] 72 := Blk.new' _ _ _ (by simp)
  have HR := Lib.hid hr
  clear hr
  go_enter Try.func57, Try.ntmps57
  go_wp2
  go_ret
  refine ⟨_, rfl, ⟨_, _, rfl, enters_of Try.func82 (by kernel_rfl) rfl, fun W hW => ?_⟩, hb0⟩
  exact within_closure _ _ lim p n c xs W hl hn ((HR.out.below hb0).below hW) h0 h1 ((k0.kept hW).cell (i := 0) rfl) ((k1.kept hW).cell (i := 0) rfl)

set_option maxRecDepth 100000 in
set_option maxHeartbeats 2000000 in
theorem most_closure (bl bs : Nat) (lim len : Int) (w : World)
    (c0 : w.cell? ⟨bl, 0, none⟩ = some (.int .i64 len)) (c1 : w.cell? ⟨bs, 0, none⟩ = some (.int .i64 lim)) :
    Calls Try.prog 87 #[.pointer (some ⟨bl, 0, none⟩), .pointer (some ⟨bs, 0, none⟩)] w fun e w' => e = .returned (.int .i64 (errE (decide (len ≤ lim)) 2)) ∧ Below w.heap.size w w' := by
  by_cases h : lim < len
  · have hd : decide (len ≤ lim) = false := decide_eq_false (by omega)
    rw [hd]
    clear hd
    go_enter Try.func87, Try.ntmps87
    go_wp2_with fail
    go_ret
    exact ⟨rfl, Below.refl _ _⟩
  · have hd : decide (len ≤ lim) = true := decide_eq_true (by omega)
    rw [hd]
    clear hd
    go_enter Try.func87, Try.ntmps87
    go_wp2_with fail
    go_ret
    exact ⟨rfl, Below.refl _ _⟩

set_option maxRecDepth 100000 in
set_option maxHeartbeats 2000000 in
theorem most_any (lim len : Int) (w : World) :
    Calls Try.prog 65 #[.int .i64 lim, .int .i64 len] w fun e w' => ∃ v, e = .returned v ∧ ChkIs w' v (errE (decide (len ≤ lim)) 2) ∧ Below w.heap.size w w' := by
  have hb0 : Below w.heap.size w ((w.alloc (.cells #[.int .i64 lim] 3)).alloc (.cells #[.int .i64 len] 3)) := bw2 w _ _
  have k0 : Blk ((w.alloc (.cells #[.int .i64 lim] 3)).alloc (.cells #[.int .i64 len] 3)) w.heap.size #[.int .i64 lim] 3 := (Blk.new w _ _).alloc _
  have k1 : Blk ((w.alloc (.cells #[.int .i64 lim] 3)).alloc (.cells #[.int .i64 len] 3)) (w.heap.size + 1) #[.int .i64 len] 3 := Blk.new' _ _ _ (by simp)
  go_enter Try.func65, Try.ntmps65
  go_wp2
  go_ret
  refine ⟨_, rfl, ⟨_, _, rfl, enters_of Try.func87 (by kernel_rfl) rfl, fun W hW => ?_⟩, hb0⟩
  exact most_closure _ _ lim len W ((k1.kept hW).cell (i := 0) rfl) ((k0.kept hW).cell (i := 0) rfl)

/-- The first error of some. -/
def firstE : List Int → Int
  | [] => 0
  | r :: rs => if r = 0 then firstE rs else r
theorem firstE_take {rs : List Int} {i : Nat} (hi : i < rs.length) (h : ∀ r ∈ rs.take i, r = 0) (hr : rs[i] ≠ 0) : firstE rs = rs[i] := by
  induction rs generalizing i with
  | nil => simp at hi
  | cons r rs ih =>
    match i with
    | 0 => simp only [List.getElem_cons_zero] at hr ⊢; unfold firstE; rw [if_neg hr]
    | i + 1 =>
      have hr0 : r = 0 := h r (by simp)
      simp only [List.getElem_cons_succ] at hr ⊢
      unfold firstE
      rw [if_pos hr0]
      exact ih (by simpa using hi) (fun x hx => h x (by rw [List.take_succ_cons]; exact List.mem_cons_of_mem _ hx)) hr
theorem firstE_zero {rs : List Int} (h : ∀ r ∈ rs, r = 0) : firstE rs = 0 := by
  induction rs with
  | nil => rfl
  | cons r rs ih => unfold firstE; rw [if_pos (h r (by simp))]; exact ih (fun x hx => h x (List.mem_cons_of_mem _ hx))

/-- A slice of checks. -/
def RdC (w : World) (p : Option Addr) (rs : List Int) : Prop :=
  ∀ i r, rs[i]? = some r → ∃ b off v, p = some ⟨b, off, none⟩ ∧ b < w.heap.size ∧ w.cell? ⟨b, off + i, none⟩ = some v ∧ ChkIs w v r

set_option maxRecDepth 100000 in
set_option maxHeartbeats 4000000 in
theorem first_any (p : Option Addr) (n c : Nat) (rs : List Int) (w : World) (hl : rs.length = n) (hn : n ≤ 1000) (hr : RdC w p rs) :
    Calls Try.prog 43 #[.slice p n c] w fun e w' => e = .returned (.int .i64 (firstE rs)) ∧ Below w.heap.size w w' := by
  have HL := Lib.hid hl
  have HR := Lib.hid hr
  clear hl hr
  go_enter Try.func43, Try.ntmps43
  go_wp2_with fail
  go_loopg [8] n (fun gk v8 wr => ∃ i : Nat, i ≤ n ∧ gk = n - i ∧ v8 = .int .i64 (i : Int) ∧ Hid (∀ r ∈ rs.take i, r = 0) ∧ Below w.heap.size w wr)
  case atStart => exact ⟨0, Nat.zero_le _, rfl, rfl, fun q hq => by simp at hq, Below.refl _ _⟩
  case round =>
    obtain ⟨i, hi, hgk, rfl, HA, hb⟩ := hrel
    have HGK := Lib.hid hgk
    clear hgk
    by_cases hlt : i < n
    · have hil : i < rs.length := by rw [HL.out]; exact hlt
      have hlti : (i : Int) < (n : Int) := by omega
      obtain ⟨b, off, v, rfl, hbl, hc, g, caps, rfl, heg, hcall⟩ := HR.out i _ (List.getElem?_eq_getElem hil)
      have hc := (hb.cell (p := ⟨b, off + i, none⟩) hbl).trans hc
      have htk : rs.take (i + 1) = rs.take i ++ [rs[i]] := List.take_succ_eq_append_getElem hil
      have hfi := fun h => firstE_take hil HA.out h
      have hcl := hcall wr hb
      clear hcall
      generalize rs[i] = r at *
      have HT := Lib.hid (And.intro htk hfi)
      have HC := Lib.hid hcl
      clear htk hfi hcl
      go_wp2_with fail
      refine HC.out.mono ?_
      rintro e w3 ⟨rfl, hb3⟩
      have hb3' := hb.trans (hb3.mono hb.size)
      by_cases hr0 : r = 0
      · subst hr0
        go_wp2_with fail
        go_roundg (n - (i + 1))
        case measure => rw [HGK.out]; omega
        case rel =>
          refine ⟨i + 1, by omega, rfl, by go_num, ?_, hb3'⟩
          intro y hy
          rw [HT.out.1] at hy
          rcases List.mem_append.1 hy with hy | hy
          · exact HA.out y hy
          · exact List.mem_singleton.1 hy
      · have hne : (r != 0) = true := by simp [hr0]
        have HF := Lib.hid (HT.out.2 hr0)
        clear hr0
        go_wp2_with fail
        go_ret
        exact ⟨congrArg (fun z : Int => Ending.returned (.int .i64 z)) HF.out.symm, hb3'⟩
    · have hlti : ¬ (i : Int) < (n : Int) := by omega
      have hz : firstE rs = 0 := firstE_zero (by have := HA.out; rwa [List.take_of_length_le (by rw [HL.out]; omega)] at this)
      have HZ := Lib.hid hz
      clear hz
      go_wp2_with fail
      go_ret
      exact ⟨congrArg (fun z : Int => Ending.returned (.int .i64 z)) HZ.out.symm, hb⟩

end Go.Proofs.Ythdhakpmhndbfaa

namespace Go.Proofs.Ythdhakpmhndbfaa
open Go.RowKit Go.Shelf
attribute [local go_sem] Oper.semAt_some

theorem Blk.put4 {W : World} {B : Nat} {a b c d : Value} {t : TypeId} (h : Blk W B #[a, b, c, d] t) (a' b' c' d' : Value) : Blk ((((W.setCell ⟨B, 0, none⟩ a').setCell ⟨B, 1, none⟩ b').setCell ⟨B, 2, none⟩ c').setCell ⟨B, 3, none⟩ d') B #[a', b', c', d'] t :=
  (((h.set_eq 0 a' rfl).set_eq 1 b' rfl).set_eq 2 c' rfl).set_eq 3 d' rfl

theorem planes1 (w : World) (a b c d : Int) (t : TypeId) : RdV (w.alloc (.cells #[.int .i64 a, .int .i64 b, .int .i64 c, .int .i64 d] t)) (some ⟨w.heap.size, 0, none⟩) [⟨a, b, c, d⟩] := by
  have hB := Blk.new w #[.int .i64 a, .int .i64 b, .int .i64 c, .int .i64 d] t
  intro i y hi
  match i, hi with
  | 0, hi => cases hi; exact ⟨_, 0, rfl, hB.lt, hB.cell (i := 0) rfl, hB.cell (i := 1) rfl, hB.cell (i := 2) rfl, hB.cell (i := 3) rfl⟩
  | i + 1, hi => simp at hi

theorem checks1 (w : World) (v : Value) (r : Int) (t : TypeId) (h : ChkIs w v r) : RdC (w.alloc (.cells #[v] t)) (some ⟨w.heap.size, 0, none⟩) [r] := by
  have hB := Blk.new w #[v] t
  intro i y hi
  match i, hi with
  | 0, hi => cases hi; exact ⟨_, 0, v, rfl, hB.lt, hB.cell (i := 0) rfl, h.below ((Below.refl _ w).alloc (Nat.le_refl _) _)⟩
  | i + 1, hi => simp at hi
theorem firstE_one (r : Int) : firstE [r] = r := by unfold firstE; split <;> simp_all [firstE]

set_option maxRecDepth 100000 in
set_option maxHeartbeats 2000000 in
theorem check_any (a b c d : Int) (w : World) (ha : InI64 a) (hb : InI64 b) (hc : InI64 c) (hd : InI64 d) :
    Calls Try.prog 11 #[.agg #[.int .i64 a, .int .i64 b, .int .i64 c, .int .i64 d]] w fun e w' => e = .returned (.int .i64 (errE (decide (RightP a b c d)) 30)) ∧ Below w.heap.size w w' := by
  obtain ⟨w1, hw1⟩ : ∃ w1, w.alloc (.cells #[.int .i64 a, .int .i64 b, .int .i64 c, .int .i64 d] 23) = w1 := ⟨_, rfl⟩
  have hb1 : Below w.heap.size w w1 := by rw [← hw1]; exact (Below.refl _ w).alloc (Nat.le_refl _) _
  have k0 : Blk w1 w.heap.size #[.int .i64 a, .int .i64 b, .int .i64 c, .int .i64 d] 23 := by rw [← hw1]; exact Blk.new _ _ _
  have c0 := k0.cell (i := 0) rfl
  have c1 := k0.cell (i := 1) rfl
  have c2 := k0.cell (i := 2) rfl
  have c3 := k0.cell (i := 3) rfl
  obtain ⟨w2, hw2⟩ : ∃ w2, w1.alloc (.cells #[.int .i64 a, .int .i64 b, .int .i64 c, .int .i64 d] 23) = w2 := ⟨_, rfl⟩
  have hr2 : RdV w2 (some ⟨w1.heap.size, 0, none⟩) [⟨a, b, c, d⟩] := by rw [← hw2]; exact planes1 w1 a b c d _
  have hb2 : Below w.heap.size w w2 := by rw [← hw2]; exact hb1.alloc hb1.size _
  have hp := planes_any (some ⟨w1.heap.size, 0, none⟩) 1 1 [⟨a, b, c, d⟩] w2 rfl (by decide) hr2 (by intro q hq; rw [List.mem_singleton.1 hq]; exact ⟨ha, hb, hc, hd⟩)
  have hall : ([⟨a, b, c, d⟩] : List V4).all (fun q => decide (RightP q.a q.b q.c q.d)) = decide (RightP a b c d) := by simp
  rw [hall] at hp
  obtain ⟨r, hr⟩ : ∃ r, errE (decide (RightP a b c d)) 30 = r := ⟨_, rfl⟩
  rw [hr] at hp ⊢
  have HP := Lib.hid hp
  clear hp hall hr hr2 ha hb hc hd
  go_enter Try.func11, Try.ntmps11
  go_wp2_with fail
  refine HP.out.mono ?_
  rintro e w3 ⟨v, rfl, hv, hb3⟩
  have hb3' := hb2.trans (hb3.mono hb2.size)
  obtain ⟨g, caps, rfl, _⟩ := id hv
  obtain ⟨w4, hw4⟩ : ∃ w4, w3.alloc (.cells #[.func (.func g) #[] caps] 70) = w4 := ⟨_, rfl⟩
  have hr4 : RdC w4 (some ⟨w3.heap.size, 0, none⟩) [r] := by rw [← hw4]; exact checks1 w3 _ r _ hv
  have hb4 : Below w.heap.size w w4 := by rw [← hw4]; exact hb3'.alloc hb3'.size _
  have hf := first_any (some ⟨w3.heap.size, 0, none⟩) 1 1 [r] w4 rfl (by decide) hr4
  rw [firstE_one] at hf
  have HF := Lib.hid hf
  clear hf hr4 hv
  go_wp2_with fail
  refine HF.out.mono ?_
  rintro e w5 ⟨rfl, hb5⟩
  go_wp2_with fail
  go_ret
  exact ⟨rfl, hb4.trans (hb5.mono hb4.size)⟩

set_option maxRecDepth 100000 in
set_option maxHeartbeats 2000000 in
theorem opposite_any (a b c d : Int) (w : World) (hr : RightP a b c d) :
    Calls Try.prog 50 #[.agg #[.int .i64 a, .int .i64 b, .int .i64 c, .int .i64 d]] w fun e w' => e = .returned (.agg #[.int .i64 (-a), .int .i64 (-b), .int .i64 (-c), .int .i64 (-d)]) ∧ Below w.heap.size w w' := by
  obtain ⟨h0, h1, h2, h3, h4, h5⟩ := hr
  have e1 : wrap64 (-a) = -a := by unfold wrap64; omega
  have e2 : wrap64 (-b) = -b := by unfold wrap64; omega
  have e3 : wrap64 (-c) = -c := by unfold wrap64; omega
  have e4 : wrap64 (-d) = -d := by unfold wrap64; omega
  clear h0 h1 h2 h3 h4 h5
  go_enter Try.func50, Try.ntmps50
  go_wp2_with fail
  exact bodyPost_ret (v := .agg #[.int .i64 (-a), .int .i64 (-b), .int .i64 (-c), .int .i64 (-d)]) (by simp [results, Try.results50, go_sem]) rfl ⟨rfl, bw2 w _ _⟩

end Go.Proofs.Ythdhakpmhndbfaa

namespace Go.Proofs.Ythdhakpmhndbfaa
open Go.RowKit
variable {P : Program} {Q : Exit → Act → World → Prop}

/-- What an operation yields: where pu says so, a known value; else it fills a block of its own. -/
def RKeepP (pu : Nat → Bool) (vs : Nat → Value) (bs : Nat → Nat × Array Value) (T : TypeId) (i : Nat) (v : Value) (w : World) : Prop := if pu i = true then v = vs i else Blk w (bs i).1 (bs i).2 T

/-- The like, where stores (into blocks that no operation reads otherwise) may come between. -/
theorem wp_region_keepP {id : Nat} {l : List Oper} {a : Act} {w : World} (pu : Nat → Bool) (vs : Nat → Value) (bs : Nat → Nat × Array Value) (T : TypeId) (S : World → Prop) (hm : P.follows .mixedOrders = true) (hE : earlierB l = true) (hS : S w.drew)
    (mono : ∀ w w', S w → Below w.heap.size w w' → S w')
    (hbs : ∀ i j, i < l.length → j < l.length → pu i = false → pu j = false → i ≠ j → (bs i).1 ≠ (bs j).1)
    (step : ∀ i, i < l.length → pu i = true → ∀ f w', S w' → (∀ j, pu j = true → depB l i j = true → f j = vs j) → wpOp P l.toArray Q i (fun a' w'' => a' = tmOf a l (upd f i (vs i)) ∧ Below w'.heap.size w' w'') (tmOf a l f) w')
    (stor : ∀ i, i < l.length → pu i = false → ∀ f w', S w' → (∀ j, pu j = true → depB l i j = true → f j = vs j) → wpOp P l.toArray Q i (fun a' w'' => a' = tmOf a l f ∧ Blk w'' (bs i).1 (bs i).2 T ∧ S w'' ∧ ∀ B cs, B ≠ (bs i).1 → Blk w' B cs T → Blk w'' B cs T) (tmOf a l f) w')
    (done : ∀ f w', S w' → (∀ j, j < l.length → pu j = true → f j = vs j) → (∀ j, j < l.length → pu j = false → Blk w' (bs j).1 (bs j).2 T) → Q .normal (tmOf a l f) w') : (Code.region id l.toArray true).wp P Q a w := by
  have h : (Code.region id l.toArray true).wp P Q (tmOf a l (slotsOf a.tmps (l.map (·.dst)) 0)) w := by
    refine wp_region_inv hm hE (fun L a' w => ∃ f, a' = tmOf a l f ∧ S w ∧ ∀ j, L j = true → j < l.length ∧ RKeepP pu vs bs T j (f j) w) ⟨_, rfl, hS, fun j h => by cases h⟩ ?_ ?_
    · rintro L i a' w' ⟨f, rfl, hs, hr⟩ hi hL hd
      have hdep : ∀ j, pu j = true → depB l i j = true → f j = vs j := fun j hj hdj => by
        have := (hr j (depsB_dep hd hdj)).2
        unfold RKeepP at this
        rwa [if_pos hj] at this
      by_cases hin : pu i = true
      · refine wpOp_mono (fun a' w'' h => ?_) (step i hi hin f w' hs hdep)
        obtain ⟨rfl, hb⟩ := h
        refine ⟨_, rfl, mono _ _ hs hb, fun j hj => ?_⟩
        by_cases e : j = i
        · subst e; exact ⟨hi, by simp only [upd, if_true, RKeepP, if_pos hin]⟩
        · simp only [upd, if_neg e]
          obtain ⟨hjl, hj'⟩ := hr j (by simpa [e] using hj)
          refine ⟨hjl, ?_⟩
          unfold RKeepP at hj' ⊢
          split
          · rename_i h; rwa [if_pos h] at hj'
          · rename_i h; rw [if_neg h] at hj'; exact hj'.kept hb
      · refine wpOp_mono (fun a' w'' h => ?_) (stor i hi (by simpa using hin) f w' hs hdep)
        obtain ⟨rfl, hb, hs', hk⟩ := h
        refine ⟨f, rfl, hs', fun j hj => ?_⟩
        by_cases e : j = i
        · subst e; refine ⟨hi, ?_⟩; unfold RKeepP; rw [if_neg hin]; exact hb
        · obtain ⟨hjl, hj'⟩ := hr j (by simpa [e] using hj)
          refine ⟨hjl, ?_⟩
          unfold RKeepP at hj' ⊢
          split
          · rename_i h; rwa [if_pos h] at hj'
          · rename_i h; rw [if_neg h] at hj'; exact hk _ _ (hbs j i hjl hi (by simpa using h) (by simpa using hin) e) hj'
    · rintro L a' w' hall ⟨f, rfl, hs, hr⟩
      refine done f w' hs (fun j hj hn => ?_) (fun j hj hn => ?_)
      · have := (hr j (hall j hj)).2; unfold RKeepP at this; rwa [if_pos hn] at this
      · have := (hr j (hall j hj)).2; unfold RKeepP at this; rwa [if_neg (by simp [hn])] at this
  rw [tmOf_same] at h
  exact h

end Go.Proofs.Ythdhakpmhndbfaa
