/- The contracts of package person, all together: Turns (PnQ2), Window (PnQ3), Age (PnQ4), Percent (PnQ5). -/
import Derived.Test.YtfncfbbkkpdhkaaDoorPnQ5
